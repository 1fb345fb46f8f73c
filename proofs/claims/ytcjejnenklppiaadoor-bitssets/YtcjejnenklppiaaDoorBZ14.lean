import Derived.Test.YtcjejnenklppiaaDoorBZ11ToBZ13
namespace Go.Proofs.YtcjejnenklppiaaDoor
set_option linter.unusedVariables false
open Go.RowKit Go.Shelf

/-- A cycle that is there. -/
structure CyP (Ns : List Nat) (n : Nat) (Cy : List Nat) : Prop where
  pos : 0 < Cy.length
  ed : ∀ i, i < Cy.length → EdB Ns n (Cy.getD i 0) (Cy.getD ((i + 1) % Cy.length) 0)
  low : ∀ i, i < Cy.length → Cy.getD 0 0 ≤ Cy.getD i 0
  nd : Cy.Nodup
  le : Cy.length ≤ n
/-- On the way round the steps fall by one. -/
theorem arF_st {Ns R : List Nat} {n x A : Nat} (hR : BfR Ns n x A R) : ∀ (f : Nat) (l : List Nat), l ≠ [] → (∀ i, i < l.length → R.getD (l.getD i 0) 0 = l.length - i + f) → (∀ z ∈ l, z < n) → (∀ i, i < (arF Ns R n f l).length → R.getD ((arF Ns R n f l).getD i 0) 0 = (arF Ns R n f l).length - i) ∧ ∀ z ∈ arF Ns R n f l, z < n
  | 0, l, _, hs, hz => ⟨fun i hi => by
    have := hs i hi
    rw [Nat.add_zero] at this
    exact this, hz⟩
  | f + 1, l, hl, hs, hz => by
    have h0 : 0 < l.length := List.length_pos_iff.2 hl
    have hlast : R.getD (l.getLastD 0) 0 = f + 2 := by
      rw [last_get hl, hs (l.length - 1) (by omega)]
      omega
    obtain ⟨_, h⟩ := hR.one (l.getLastD 0) (by omega)
    rcases h with h | ⟨v, _, hv, h1, h2⟩
    · omega
    · have hmem : v ∈ bitsU (Ns.getD (l.getLastD 0) 0) n := bitsU_mem.2 ⟨hv.2.1, hv.2.2⟩
      cases e : (bitsU (Ns.getD (l.getLastD 0) 0) n).find? (fun y => decide (R.getD y 0 = f + 1)) with
      | none =>
        have := List.find?_eq_none.1 e v hmem
        simp only [decide_eq_true_iff] at this
        omega
      | some y =>
        have hs' : arS Ns R n (f + 1) l = l ++ [y] := by unfold arS; rw [e]
        have hy1 : R.getD y 0 = f + 1 := by simpa using List.find?_some e
        have hy2 := bitsU_mem.1 (List.mem_of_find?_eq_some e)
        have ih := arF_st hR f (l ++ [y]) (by simp) (fun i hi => by
          rw [List.length_append, List.length_singleton] at hi ⊢
          rcases Nat.lt_or_ge i l.length with q | q
          · have g1 : (l ++ [y]).getD i 0 = l.getD i 0 := by
              rw [List.getD_eq_getElem?_getD, List.getD_eq_getElem?_getD, List.getElem?_append_left q]
            rw [g1, hs i q]
            omega
          · have e1 : i = l.length := by omega
            subst e1
            have g2 : (l ++ [y]).getD l.length 0 = y := by
              rw [List.getD_eq_getElem?_getD, List.getElem?_append_right (Nat.le_refl _), Nat.sub_self]
              rfl
            rw [g2, hy1]
            omega) (fun z hzm => by
          rcases List.mem_append.1 hzm with q | q
          · exact hz z q
          · rw [List.mem_singleton.1 q]; exact hy2.1)
        show (∀ i, i < (arF Ns R n f (arS Ns R n (f + 1) l)).length → R.getD ((arF Ns R n f (arS Ns R n (f + 1) l)).getD i 0) 0 = (arF Ns R n f (arS Ns R n (f + 1) l)).length - i) ∧ ∀ z ∈ arF Ns R n f (arS Ns R n (f + 1) l), z < n
        rw [hs']
        exact ih
theorem ar_nd {Ns R : List Nat} {n x A : Nat} (hR : BfR Ns n x A R) (hx : x < n) (hp : 0 < R.getD x 0) : (arU Ns R n x).Nodup ∧ (arU Ns R n x).length ≤ n := by
  have h := arF_st hR (R.getD x 0 - 1) [x] (by simp) (fun i hi => by
    have : i = 0 := by simp at hi; omega
    subst this
    show R.getD x 0 = 1 - 0 + (R.getD x 0 - 1)
    omega) (fun z hz => by rw [List.mem_singleton.1 hz]; exact hx)
  have hnd : (arU Ns R n x).Nodup := by
    rw [List.nodup_iff_pairwise_ne, List.pairwise_iff_getElem]
    intro i j hi hj hij e
    have h1 : (arU Ns R n x).getD i 0 = (arU Ns R n x)[i] := by rw [List.getD_eq_getElem?_getD, List.getElem?_eq_getElem hi]; rfl
    have h2 : (arU Ns R n x).getD j 0 = (arU Ns R n x)[j] := by rw [List.getD_eq_getElem?_getD, List.getElem?_eq_getElem hj]; rfl
    have h3 : R.getD ((arU Ns R n x).getD i 0) 0 = (arU Ns R n x).length - i := h.1 i hi
    have h4 : R.getD ((arU Ns R n x).getD j 0) 0 = (arU Ns R n x).length - j := h.1 j hj
    rw [h1, e, ← h2, h4] at h3
    omega
  exact ⟨hnd, nodup_le hnd h.2⟩
theorem StM.later {wr w' : World} {n : Nat} {v : Value} {st : List Nat} (h : StM wr n v st) (hb : Below wr.heap.size wr w') : StM w' n v st := by
  rcases h with q | ⟨sb, h1, h2, h3⟩
  · exact .inl q
  · exact .inr ⟨sb, h1, h2.later hb, h3⟩
theorem StM.frB {wr w' : World} {n k m N : Nat} {v : Value} {st : List Nat} (h : StM wr n v st) (hs : SB wr k m N) (hf : FrB (· = k) wr w') : StM w' n v st := by
  rcases h with q | ⟨sb, h1, h2, h3⟩
  · exact .inl q
  · exact .inr ⟨sb, h1, h2.frB hf (h2.ne hs), h3⟩
/-- A cycle being looked for. -/
structure CkB (w w1 : World) (n x : Nat) (s : Nat × Nat × List Nat) (v : Value) (wr : World) : Prop where
  sb : SB wr w1.heap.size n (loN x)
  st : StM wr n v s.2.2
  bel : Below w1.heap.size w1 wr
  le : s.2.1 ≤ 100000
set_option maxRecDepth 100000 in
set_option maxHeartbeats 16000000 in
theorem cycle_SB {w : World} {rb n : Nat} {ks Ns : List Nat} (hR : RwB w rb n ks Ns) (hn : Ns.length = n) (hm : n ≤ 4096) (hT : TabB w) (hshort : (placeU Ns n).length < n) (c : Nat) :
    Calls Tryd.prog 52 #[.slice (some ⟨rb, 0, none⟩) n c] w fun e w' => ∃ v Cy, e = .returned v ∧ LBs w (nI Cy) v w' ∧ CyP Ns n Cy := by
  have HR : Hid (RwB w rb n ks Ns) := hR
  have HT : Hid (TabB w) := hT
  have HNL : Hid (Ns.length = n) := hn
  have HSH : Hid ((placeU Ns n).length < n) := hshort
  have TU : Hid (Calls Tryd.prog 59 #[.slice (some ⟨rb, 0, none⟩) n c] w fun e w' => ∃ Ms, e = .returned (.slice (some ⟨w.heap.size, 0, none⟩) n n) ∧ TuB w n Ms w' ∧ ∀ x y, x < n → y < n → (Ms.getD y 0).testBit x = (Ns.getD x 0).testBit y) := turned_SB hR hn hm hT c
  clear hR hT hn hshort
  go_enter Tryd.func52, Tryd.ntmps52
  go_wp2_with (go_at_call 59; refine TU.out.mono ?_)
  rintro e w1 ⟨Ms, rfl, t1, hMs⟩
  have T1 : Hid (TuB w n Ms w1) := t1
  have EM : Hid (Calls Tryd.prog 26 #[.int .i64 (n : Int)] w1 fun e w' => e = .returned (.pointer (some ⟨w1.heap.size + 1, 0, none⟩)) ∧ SB w' w1.heap.size n 0 ∧ Below w1.heap.size w1 w' ∧ w'.heap.size = w1.heap.size + 2) := empty_SB n hm w1
  obtain ⟨s, hse, hs1, hs2, hs3, hs4⟩ := cycle_found hMs HSH.out
  have HSE : Hid (cyF Ms n (List.range' 0 n) (0, 0, []) = s) := by
    rw [← List.range_eq_range']
    exact hse
  have HSP : Hid (s.1 < n ∧ 0 < s.2.1 ∧ s.2.2.getD s.1 0 = s.2.1 ∧ BfR Ns n s.1 (loN s.1) s.2.2) := ⟨hs1, hs2, hs3, hs4⟩
  have HMS : Hid (∀ x y, x < n → y < n → (Ms.getD y 0).testBit x = (Ns.getD x 0).testBit y) := hMs
  clear t1 hMs TU hse hs1 hs2 hs3 hs4
  go_wp2_with (go_at_call 26; refine EM.out.mono ?_; rintro e w2 ⟨rfl, s2, b2, z2⟩; have W2 : Hid (CkB w w1 n 0 (0, 0, []) (.slice none 0 0) w2) := ⟨s2, .inl ⟨rfl, rfl⟩, b2, Nat.zero_le _⟩; clear s2 b2 z2)
  clear EM
  go_loopw [5, 6, 7, 17] (fun v5 v6 v7 z wr => ∃ (x : Nat) (t : Nat × Nat × List Nat), x ≤ n ∧ z = .int .i64 (x : Int) ∧ v5 = .int .i64 (t.1 : Int) ∧ v6 = .int .i64 (t.2.1 : Int) ∧ CkB w w1 n x t v7 wr ∧ cyF Ms n (List.range' x (n - x)) t = s) (fun _ _ _ z _ => n - (intOf z).toNat)
  case atStart => exact ⟨0, (0, 0, []), Nat.zero_le _, rfl, rfl, rfl, W2.out, HSE.out⟩
  case round =>
    clear W2 HSE
    obtain ⟨x, ⟨t1, t2, t3⟩, hx, rfl, rfl, rfl, hC, hF⟩ := hrel
    by_cases hlt : x < n
    · have xlt : (x : Int) < (n : Int) := by omega
      have hle : t2 ≤ 100000 := hC.le
      have hrg : List.range' x (n - x) = x :: List.range' (x + 1) (n - (x + 1)) := by
        rw [show n - x = (n - (x + 1)) + 1 by omega, List.range'_succ]
      rw [hrg] at hF
      unfold cyF at hF
      have hRle := bfU_le (Ms := Ms) (n := n) (x := x) (most := t2) _ (bfS n x) (Nat.le_refl _) (fun z => by simp only [bfS]; rw [repl_get]; exact Nat.zero_le _)
      have CP : Hid (Calls Tryd.prog 19 #[.pointer (some ⟨w1.heap.size + 1, 0, none⟩)] wr fun e w' => e = .returned (.pointer (some ⟨wr.heap.size + 1, 0, none⟩)) ∧ SB w' wr.heap.size n (loN x) ∧ Below wr.heap.size wr w') := copy_SB hC.sb
      have hw1 := T1.out.bel.size
      have hwr := hC.bel.size
      have hsz := hC.sb.size
      have ST : Hid (∀ w3, SB w3 wr.heap.size n (loN x) → Below wr.heap.size wr w3 → Calls Tryd.prog 60 #[.int .i64 (x : Int), .int .i64 (t2 : Int), .slice (some ⟨w.heap.size, 0, none⟩) n n, .pointer (some ⟨wr.heap.size + 1, 0, none⟩)] w3 fun e w' => e = .returned (.slice (some ⟨w3.heap.size, 0, none⟩) n n) ∧ KbB w' w3.heap.size (bfU Ms n x t2 (bfS n x)) ∧ FrB (· = wr.heap.size) w3 w') := fun w3 s3 b3 => by
        have b13 : Below w1.heap.size w1 w3 := hC.bel.trans (b3.mono hC.bel.size)
        have rw3 := T1.out.rw.later b13
        exact stepsTo_SB rw3 T1.out.len hm ((HT.out.later T1.out.bel).later b13) s3 hlt (fun k hk => by have := T1.out.kin k hk; omega) (by have := HT.out.lt; omega) hle n
      obtain ⟨R, hRR⟩ : ∃ R, bfU Ms n x t2 (bfS n x) = R := ⟨_, rfl⟩
      simp only [hRR] at hF hRle ST
      have hRx := hRle x
      have HRL : Hid (R.length = n) := by
        show _ = _
        rw [← hRR]
        exact (BfI.run (Ns := Ns) (most := t2) HMS.out _ _ (Nat.le_refl _) (BfI.first hlt)).1.len
      have HC : Hid (CkB w w1 n x (t1, t2, t3) u7 wr) := hC
      -- behind the search
      have H4 : Hid (∀ w3 w4, SB w3 wr.heap.size n (loN x) → Below wr.heap.size wr w3 → KbB w4 w3.heap.size R → FrB (· = wr.heap.size) w3 w4 → CkB w w1 n x (t1, t2, t3) u7 w4 ∧ w4.cell? ⟨w3.heap.size, x, none⟩ = some (.int .i64 (R.getD x 0 : Int))) := fun w3 w4 s3 b3 k4 f4 => by
        have bA := HC.out.bel.trans (b3.mono HC.out.bel.size)
        exact ⟨⟨(HC.out.sb.later b3).frB f4 (by omega) (by omega), (HC.out.st.later b3).frB s3 f4, f4.below bA bA.size (fun j q => by have q2 : j = wr.heap.size := q; omega), hle⟩, k4.cell (by rw [HRL.out]; exact hlt)⟩
      have AD : Hid (∀ w4 w4' t' v', CkB w w1 n x (t1, t2, t3) u7 w4 → Below w4.heap.size w4 w4' → StM w4' n v' t'.2.2 → t'.2.1 ≤ 100000 → Calls Tryd.prog 7 #[.pointer (some ⟨w1.heap.size + 1, 0, none⟩), .int .i64 (x : Int)] w4' fun e w' => ∃ bv, e = .returned (.bool bv) ∧ CkB w w1 n (x + 1) t' v' w') := fun w4 w4' t' v' h4 b4 st4 hl4 => (add_SB (h4.sb.later b4) (x : Int)).mono fun e w' ⟨q1, q2, q3⟩ => by
        have e2 : addX (loN x) n (x : Int) = loN (x + 1) := by unfold addX; rw [if_pos ⟨by omega, by omega⟩]; rfl
        rw [e2] at q2
        have bB := h4.bel.trans (b4.mono h4.bel.size)
        exact ⟨_, q1, q2, st4.frB (h4.sb.later b4) q3, q3.below bB bB.size (fun j q => by have q2 : j = w1.heap.size := q; omega), hl4⟩
      by_cases hpos : 0 < R.getD x 0
      · rw [if_pos hpos] at hF
        have ppos : (R.getD x 0 : Int) > 0 := by omega
        have HF : Hid (cyF Ms n (List.range' (x + 1) (n - (x + 1))) (x, R.getD x 0, R) = s) := hF
        have HSM : Hid (∀ w3 w4, KbB w4 w3 R → StM w4 n (.slice (some ⟨w3, 0, none⟩) n n) R) := fun w3 w4 k4 => .inr ⟨w3, rfl, k4, HRL.out⟩
        generalize R.getD x 0 = rx at *
        clear hC hF hRR hRle hrg hw1 hwr hsz HC hpos
        go_wp2_with (first
          | (go_at_call 19; refine CP.out.mono ?_; rintro e w3 ⟨rfl, s3, b3⟩; have W3 : Hid (SB w3 wr.heap.size n (loN x) ∧ Below wr.heap.size wr w3) := ⟨s3, b3⟩; clear s3 b3)
          | (go_at_call 60; refine (ST.out _ W3.out.1 W3.out.2).mono ?_; rintro e w4 ⟨rfl, k4, f4⟩; have K4 : Hid (KbB w4 w3.heap.size R) := k4; obtain ⟨h4, c4⟩ := H4.out w3 w4 W3.out.1 W3.out.2 k4 f4; have C4 : Hid (CkB w w1 n x (t1, t2, t3) u7 w4) := h4; clear h4 k4 f4))
        go_quiet (fail)
        have AD2 : Hid (Calls Tryd.prog 7 #[.pointer (some ⟨w1.heap.size + 1, 0, none⟩), .int .i64 (x : Int)] (w4.drewN nq) fun e w' => ∃ bv, e = .returned (.bool bv) ∧ CkB w w1 n (x + 1) (x, rx, R) (.slice (some ⟨w3.heap.size, 0, none⟩) n n) w') := AD.out w4 _ (x, rx, R) _ C4.out (belN _ _) (HSM.out _ _ (K4.out.later (belN _ _))) (by show rx ≤ 100000; omega)
        generalize w4.drewN nq = w5 at *
        clear c4 AD
        go_wp2_with (go_at_call 7; refine AD2.out.mono ?_; rintro e w6 ⟨bv, rfl, h6⟩; have H6 : Hid (CkB w w1 n (x + 1) (x, rx, R) (.slice (some ⟨w3.heap.size, 0, none⟩) n n) w6) := h6; clear h6)
        go_roundw
        case rel => exact ⟨x + 1, (x, rx, R), by omega, by go_num, rfl, rfl, H6.out, HF.out⟩
        case measure => simp [intOf]; omega
      · rw [if_neg hpos] at hF
        have hr0 : R.getD x 0 = 0 := by omega
        rw [hr0] at H4
        have HF : Hid (cyF Ms n (List.range' (x + 1) (n - (x + 1))) (t1, t2, t3) = s) := hF
        clear hC hF hRR hRle hrg hw1 hwr hsz hpos hr0 hRx
        go_wp2_with (first
          | (go_at_call 19; refine CP.out.mono ?_; rintro e w3 ⟨rfl, s3, b3⟩; have W3 : Hid (SB w3 wr.heap.size n (loN x) ∧ Below wr.heap.size wr w3) := ⟨s3, b3⟩; clear s3 b3)
          | (go_at_call 60; refine (ST.out _ W3.out.1 W3.out.2).mono ?_; rintro e w4 ⟨rfl, k4, f4⟩; obtain ⟨h4, c4⟩ := H4.out w3 w4 W3.out.1 W3.out.2 k4 f4; have C4 : Hid (CkB w w1 n x (t1, t2, t3) u7 w4) := h4; clear h4 k4 f4)
          | (go_at_call 7; refine (AD.out w4 w4 (t1, t2, t3) u7 C4.out (Below.refl _ _) C4.out.st hle).mono ?_; rintro e w6 ⟨bv, rfl, h6⟩; have H6 : Hid (CkB w w1 n (x + 1) (t1, t2, t3) u7 w6) := h6; clear h6 c4))
        go_roundw
        case rel => exact ⟨x + 1, (t1, t2, t3), by omega, by go_num, rfl, rfl, H6.out, HF.out⟩
        case measure => simp [intOf]; omega
    · obtain rfl : x = n := by omega
      have xlt : ¬ (x : Int) < (x : Int) := by omega
      rw [Nat.sub_self] at hF
      have hF' : (t1, t2, t3) = s := hF
      subst hF'
      obtain ⟨hs1, hs2, hs3, hs4⟩ := HSP.out
      simp only at hs1 hs2 hs3 hs4
      have hst := hC.st
      simp only at hst
      rcases hst with ⟨_, e0⟩ | ⟨sb, rfl, hk, hkl⟩
      · rw [e0] at hs3
        simp at hs3
        omega
      · have b0 : Below w.heap.size w wr := T1.out.bel.trans (hC.bel.mono T1.out.bel.size)
        have AR : Hid (Calls Tryd.prog 61 #[.int .i64 (t1 : Int), .slice (some ⟨rb, 0, none⟩) x c, .slice (some ⟨sb, 0, none⟩) x x] wr fun e w' => ∃ v Cy, e = .returned v ∧ LBs w (nI Cy) v w' ∧ CyP Ns x Cy) := (around_SB (HR.out.later b0) HNL.out hm (HT.out.later b0) hk hkl hs1 (by omega) (by have := hC.le; simp only at this; omega) c x).mono fun e w' ⟨v, q1, q2⟩ => by
          obtain ⟨h1, h2, h3⟩ := ar_ok hs4 (by omega)
          obtain ⟨h4, h5⟩ := ar_nd hs4 hs1 (by omega)
          refine ⟨v, _, q1, ⟨q2.il, fun j hj => Nat.le_trans b0.size (q2.own j hj), b0.trans (q2.bel.mono b0.size)⟩, h1, fun i hi => (h3 i hi).1, fun i hi => ?_, h4, h5⟩
          rw [h2]
          exact (h3 i hi).2
        clear hC hF hs1 hs2 hs3 hs4 hk hkl b0
        go_wp2_with (go_at_call 61; refine AR.out.mono ?_; rintro e w4 ⟨v4, Cy, rfl, l4, p4⟩; have L4 : Hid (LBs w (nI Cy) v4 w4 ∧ CyP Ns x Cy) := ⟨l4, p4⟩; clear l4 p4)
        go_ret
        first | exact ⟨_, Cy, rfl, L4.out.1, L4.out.2⟩ | exact ⟨_, rfl, Cy, L4.out.1, L4.out.2⟩ | exact ⟨Cy, L4.out.1, L4.out.2⟩
end Go.Proofs.YtcjejnenklppiaaDoor
