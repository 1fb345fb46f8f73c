import Derived.Test.YtcjejnenklppiaaDoorBZ14
namespace Go.Proofs.YtcjejnenklppiaaDoor
set_option linter.unusedVariables false
open Go.RowKit Go.Shelf

/-- What Order answers. -/
def OrA (w : World) (n : Int) (E : List (Int × Int)) (e : Ending) (w' : World) : Prop :=
  Below w.heap.size w w' ∧ (((decide (0 ≤ n) && decide (n ≤ 4096)) = false ∧ e = .returned (.tuple #[.slice none 0 0, .slice none 0 0, .int .i64 4])) ∨ ∃ k : Nat, n = (k : Int) ∧ k ≤ 4096 ∧
    ((E.all (okE k) = false ∧ e = .returned (.tuple #[.slice none 0 0, .slice none 0 0, .int .i64 51])) ∨ (E.all (okE k) = true ∧ ∃ Ns, RelB E k Ns ∧
      (((placeU Ns k).length = k ∧ ∃ v, e = .returned (.tuple #[v, .slice none 0 0, .int .i64 0]) ∧ LBs w (nI (placeU Ns k)) v w') ∨
       ((placeU Ns k).length < k ∧ ∃ v Cy, e = .returned (.tuple #[.slice none 0 0, v, .int .i64 73]) ∧ LBs w (nI Cy) v w' ∧ CyP Ns k Cy)))))
set_option maxRecDepth 100000 in
set_option maxHeartbeats 8000000 in
theorem order_any (n : Int) (w : World) (ea : Option Addr) (ec : Nat) (E : List (Int × Int)) (hE : PrsB w ea E) (hEl : E.length ≤ 140737488355328) (hT : TabB w) : Calls Tryd.prog 42 #[.int .i64 n, .slice ea E.length ec] w (OrA w n E) := by
  by_cases hn : (decide (0 ≤ n) && decide (n ≤ 4096)) = false
  · have RF : Hid (Calls Tryd.prog 43 #[.int .i64 n, .slice ea E.length ec] w fun e w' => e = .returned (.tuple #[.slice none 0 0, .int .i64 4]) ∧ w' = w) := rows_far n hn ea E.length ec w
    have HN : Hid ((decide (0 ≤ n) && decide (n ≤ 4096)) = false) := hn
    clear hE hT hn
    generalize E.length = el at *
    go_enter Tryd.func42, Tryd.ntmps42
    go_wp2_with (go_at_call 43; refine RF.out.mono ?_; rintro e w1 ⟨rfl, hz⟩; rw [hz]; clear hz w1)
    refine bodyPost_ret (v := .tuple #[.slice none 0 0, .slice none 0 0, .int .i64 4]) (by simp [results, Tryd.results42, go_sem]) rfl ?_
    exact ⟨Below.refl _ _, .inl ⟨HN.out, rfl⟩⟩
  · obtain ⟨k, rfl⟩ : ∃ k : Nat, n = (k : Int) := ⟨n.toNat, by simp at hn; omega⟩
    have hk : k ≤ 4096 := by simp at hn; omega
    have RF : Hid (Calls Tryd.prog 43 #[.int .i64 (k : Int), .slice ea E.length ec] w (RoA w k E)) := rows_SB hk ea ec E hE hEl
    have HT : Hid (TabB w) := hT
    clear hE hT hn
    generalize hel : E.length = el at *
    clear hel
    go_enter Tryd.func42, Tryd.ntmps42
    go_wp2_with (go_at_call 43; refine RF.out.mono ?_)
    rintro e w1 (⟨hE, rfl, b1⟩ | ⟨hE, Ns, rfl, t1, hb1⟩)
    · have HE : Hid (E.all (okE k) = false ∧ Below w.heap.size w w1) := ⟨hE, b1⟩
      clear hE b1
      go_wp2
      refine bodyPost_ret (v := .tuple #[.slice none 0 0, .slice none 0 0, .int .i64 51]) (by simp [results, Tryd.results42, go_sem]) rfl ?_
      exact ⟨HE.out.2, .inr ⟨k, rfl, hk, .inl ⟨HE.out.1, rfl⟩⟩⟩
    · have HE : Hid (E.all (okE k) = true ∧ RelB E k Ns ∧ Below w.heap.size w w1) := ⟨hE, t1.rel hb1, t1.bel⟩
      have T1 : Hid (TuB w k Ns w1) := t1
      have PL : Hid (Calls Tryd.prog 51 #[.slice (some ⟨w.heap.size, 0, none⟩) k k] w1 fun e w' => ∃ v, e = .returned v ∧ IL w' v (nI (placeU Ns k)) ∧ (∀ j, v.ownBlock = some j → w1.heap.size ≤ j) ∧ Below w1.heap.size w1 w') := place_SB t1.rw t1.len hk (HT.out.later t1.bel) k
      obtain ⟨P, _, hP2⟩ := place_is Ns k
      clear hE t1 hb1
      go_wp2_with (go_at_call 51; refine PL.out.mono ?_)
      rintro e w2 ⟨v2, rfl, i2, o2, b2⟩
      obtain ⟨pa, pc, rfl⟩ := il_lenB i2
      have B2 : Hid (Below w.heap.size w w2) := HE.out.2.2.trans (b2.mono HE.out.2.2.size)
      rcases hP2 with hfull | ⟨hshort, _⟩
      · have L2 : Hid (LBs w (nI (placeU Ns k)) (.slice pa k pc) w2) := by
          rw [hfull] at i2 o2
          exact ⟨i2, fun j hj => Nat.le_trans HE.out.2.2.size (o2 j hj), B2.out⟩
        have HFU : Hid ((placeU Ns k).length = k) := hfull
        rw [hfull]
        have klt : ¬ (k : Int) < (k : Int) := by omega
        clear i2 o2 b2 PL hfull
        go_wp2
        refine bodyPost_ret (v := .tuple #[.slice pa k pc, .slice none 0 0, .int .i64 0]) (by simp [results, Tryd.results42, go_sem]) rfl ?_
        exact ⟨B2.out, .inr ⟨k, rfl, hk, .inr ⟨HE.out.1, Ns, HE.out.2.1, .inl ⟨HFU.out, _, rfl, L2.out⟩⟩⟩⟩
      · have HSH : Hid ((placeU Ns k).length < k) := hshort
        have CY : Hid (Calls Tryd.prog 52 #[.slice (some ⟨w.heap.size, 0, none⟩) k k] w2 fun e w' => ∃ v Cy, e = .returned v ∧ LBs w (nI Cy) v w' ∧ CyP Ns k Cy) := (cycle_SB (T1.out.rw.later b2) T1.out.len hk ((HT.out.later T1.out.bel).later b2) hshort k).mono fun e w' ⟨v, Cy, q1, q2, q3⟩ => ⟨v, Cy, q1, ⟨q2.il, fun j hj => Nat.le_trans B2.out.size (q2.own j hj), B2.out.trans (q2.bel.mono B2.out.size)⟩, q3⟩
        have klt : ((placeU Ns k).length : Int) < (k : Int) := by omega
        generalize hpl : (placeU Ns k).length = pl at *
        clear i2 o2 b2 PL hshort
        go_wp2_with (go_at_call 52; refine CY.out.mono ?_; rintro e w3 ⟨v3, Cy, rfl, l3, p3⟩; have L3 : Hid (LBs w (nI Cy) v3 w3 ∧ CyP Ns k Cy) := ⟨l3, p3⟩; clear l3 p3)
        refine bodyPost_ret (v := .tuple #[.slice none 0 0, v3, .int .i64 73]) (by simp [results, Tryd.results42, go_sem]) rfl ?_
        exact ⟨L3.out.1.bel, .inr ⟨k, rfl, hk, .inr ⟨HE.out.1, Ns, HE.out.2.1, .inr ⟨by rw [hpl]; exact HSH.out, v3, Cy, rfl, L3.out.1, L3.out.2⟩⟩⟩⟩
end Go.Proofs.YtcjejnenklppiaaDoor
namespace Go.Proofs.YtcjejnenklppiaaDoor
set_option linter.unusedVariables false
open Go.RowKit Go.Shelf

theorem num_SB (e : Int) (w : World) : Calls Tryd.prog 6 #[.int .i64 e] w fun x w' => x = .returned (.int .i64 e) ∧ w' = w := by
  go_enter Tryd.func6, Tryd.ntmps6
  go_wp2
  go_ret
  exact ⟨rfl, rfl⟩
theorem ed_two {Ns : List Nat} (hN : RelB [(0, 1)] 2 Ns) {x y : Nat} (h : EdB Ns 2 x y) : x = 0 ∧ y = 1 := by
  obtain ⟨hx, hy, hb⟩ := h
  rw [hN.bit x y hx hy] at hb
  unfold hasE at hb
  simp at hb
  omega
theorem closure_two {w : World} {ea : Option Addr} (ec : Nat) (hE : PrsB w ea [(0, 1)]) (hT : TabB w) : Calls Tryd.prog 41 #[.int .i64 2, .slice ea 1 ec] w fun e w' => ∃ a c, e = .returned (.tuple #[.slice a 1 c, .int .i64 0]) ∧ Below w.heap.size w w' := by
  have h := closure_any 2 w ea ec [(0, 1)] hE (by simp) hT
  refine h.mono ?_
  rintro e w' ⟨hb, (⟨h1, _⟩ | ⟨k, hk, _, hh⟩)⟩
  · exact absurd h1 (by decide)
  · obtain rfl : k = 2 := by omega
    rcases hh with ⟨h1, _⟩ | ⟨_, v, Ns, Ms, rfl, hN, hM, hp⟩
    · exact absurd h1 (by decide)
    · have e2 : ∀ x y, x < 2 → y < 2 → ((Ns.getD x 0).testBit y = true ↔ x = 0 ∧ y = 1) := fun x y hx hy => ⟨fun q => ed_two hN ⟨hx, hy, q⟩, fun q => by
        rw [hN.bit x y hx hy, q.1, q.2]
        rfl⟩
      have m0 : popB (Ms.getD 0 0) 2 = 1 := by
        have b0 : (Ms.getD 0 0).testBit 0 = false := by
          cases e : (Ms.getD 0 0).testBit 0 with
          | false => rfl
          | true =>
            obtain ⟨y, hy, hyb⟩ := (hM.bit 0 (by decide) 0).1 e
            have := (e2 y 0 (hy.lt (by decide)) (by decide)).1 hyb
            omega
        have b1 : (Ms.getD 0 0).testBit 1 = true := (hM.bit 0 (by decide) 1).2 ⟨0, .refl 0, (e2 0 1 (by decide) (by decide)).2 ⟨rfl, rfl⟩⟩
        show 0 + ((Ms.getD 0 0).testBit 0).toNat + ((Ms.getD 0 0).testBit 1).toNat = 1
        rw [b0, b1]
        rfl
      have m1 : popB (Ms.getD 1 0) 2 = 0 := by
        have bb : ∀ b, b < 2 → (Ms.getD 1 0).testBit b = false := fun b hb2 => by
          cases e : (Ms.getD 1 0).testBit b with
          | false => rfl
          | true =>
            obtain ⟨y, hy, hyb⟩ := (hM.bit 1 (by decide) b).1 e
            have hy1 : y = 1 := hy.fwd (fun u => u = 1) (fun u v hu ed => by
              have := ed_two hN ed
              omega) rfl
            have := (e2 y b (by omega) hb2).1 hyb
            omega
        show 0 + ((Ms.getD 1 0).testBit 0).toNat + ((Ms.getD 1 0).testBit 1).toNat = 0
        rw [bb 0 (by decide), bb 1 (by decide)]
        rfl
      have hl : (prU Ms 2 2).length = 1 := by
        have h0 := prU_pop Ms 2 0
        have h1 := prU_pop Ms 2 1
        have hz : (prU Ms 2 0).length = 0 := by simp [prU]
        rw [m0, hz] at h0
        rw [m1, h0] at h1
        exact h1
      obtain ⟨a, c, rfl, _⟩ := hp.ro.len
      rw [hl]
      exact ⟨a, c, rfl, hb⟩
theorem order_one {w : World} {ea : Option Addr} (ec : Nat) (hE : PrsB w ea [(0, 0)]) (hT : TabB w) : Calls Tryd.prog 42 #[.int .i64 1, .slice ea 1 ec] w fun e w' => ∃ a c, e = .returned (.tuple #[.slice none 0 0, .slice a 1 c, .int .i64 73]) ∧ Below w.heap.size w w' := by
  have h := order_any 1 w ea ec [(0, 0)] hE (by simp) hT
  refine h.mono ?_
  rintro e w' ⟨hb, (⟨h1, _⟩ | ⟨k, hk, _, hh⟩)⟩
  · exact absurd h1 (by decide)
  · obtain rfl : k = 1 := by omega
    rcases hh with ⟨h1, _⟩ | ⟨_, Ns, hN, hor⟩
    · exact absurd h1 (by decide)
    · have e0 : EdB Ns 1 0 0 := ⟨by decide, by decide, by rw [hN.bit 0 0 (by decide) (by decide)]; rfl⟩
      rcases hor with ⟨hfull, _⟩ | ⟨_, v, Cy, rfl, hl, hc⟩
      · exfalso
        obtain ⟨P, hP, _⟩ := place_is Ns 1
        cases hp : placeU Ns 1 with
        | nil => rw [hp] at hfull; simp at hfull
        | cons x l =>
          have hx := hP.lt x (by rw [hp]; exact List.mem_cons_self)
          obtain rfl : x = 0 := by omega
          have := hP.od [] 0 l (by rw [hp]; rfl) 0 e0
          cases this
      · obtain ⟨a, c, rfl⟩ := il_lenB hl.il
        have h1 := hc.pos
        have h2 := hc.le
        have h3 : Cy.length = 1 := by omega
        rw [h3]
        exact ⟨a, c, rfl, hb⟩
theorem prs_one (w : World) (x y : Int) : PrsB (w.alloc (.cells #[.int .i64 x, .int .i64 y] 53)) (some ⟨w.heap.size, 0, none⟩) [(x, y)] := fun _ => ⟨w.heap.size, 0, rfl, by simp, fun i hi => by
  have : i = 0 := by simp at hi; omega
  subst this
  exact ⟨(cellq_any (heap_alloc_new w _)).trans rfl, (cellq_any (heap_alloc_new w _)).trans rfl⟩⟩
set_option maxRecDepth 100000 in
set_option maxHeartbeats 8000000 in
theorem alive_SB {w : World} (hT : TabB w) : Calls Tryd.prog 22 #[] w fun e w' => e = .returned (.bool true) ∧ Below w.heap.size w w' := by
  have HT : Hid (TabB w) := hT
  have NS : Hid (Calls Tryd.prog 5 #[.int .i64 9] w fun e w' => e = .returned (.tuple #[.pointer (some ⟨w.heap.size + 1, 0, none⟩), .int .i64 0]) ∧ SB w' w.heap.size 9 0 ∧ Below w.heap.size w w') := newset_SB 9 (by decide) w
  have NU : Hid (∀ (e : Int) (w : World), Calls Tryd.prog 6 #[.int .i64 e] w fun x w' => x = .returned (.int .i64 e) ∧ w' = w) := num_SB
  have A8 : Hid (∀ w1, SB w1 w.heap.size 9 0 → Below w.heap.size w w1 → Calls Tryd.prog 7 #[.pointer (some ⟨w.heap.size + 1, 0, none⟩), .int .i64 8] w1 fun e w' => e = .returned (.bool true) ∧ SB w' w.heap.size 9 256 ∧ Below w.heap.size w w') := fun w1 s1 b1 => (add_SB s1 8).mono fun e w' ⟨q1, q2, q3⟩ => ⟨q1, q2, q3.below b1 b1.size (fun j hj => by have h2 : j = w.heap.size := hj; omega)⟩
  have A9 : Hid (∀ w1, SB w1 w.heap.size 9 256 → Below w.heap.size w w1 → Calls Tryd.prog 7 #[.pointer (some ⟨w.heap.size + 1, 0, none⟩), .int .i64 9] w1 fun e w' => e = .returned (.bool false) ∧ SB w' w.heap.size 9 256 ∧ Below w.heap.size w w') := fun w1 s1 b1 => (add_SB s1 9).mono fun e w' ⟨q1, q2, q3⟩ => ⟨q1, q2, q3.below b1 b1.size (fun j hj => by have h2 : j = w.heap.size := hj; omega)⟩
  have CL : Hid (∀ w1 : World, Below w.heap.size w w1 → Calls Tryd.prog 41 #[.int .i64 2, .slice (some ⟨w1.heap.size, 0, none⟩) 1 1] (w1.alloc (.cells #[.int .i64 0, .int .i64 1] 53)) fun e w' => ∃ a c, e = .returned (.tuple #[.slice a 1 c, .int .i64 0]) ∧ Below w1.heap.size w1 w') := fun w1 b1 => (closure_two 1 (prs_one w1 0 1) ((HT.out.later b1).later (below_alloc _ _))).mono fun e w' ⟨a, c, q1, q2⟩ => ⟨a, c, q1, (below_alloc w1 _).trans (q2.mono (below_alloc w1 _).size)⟩
  have OR : Hid (∀ w1 : World, Below w.heap.size w w1 → Calls Tryd.prog 42 #[.int .i64 1, .slice (some ⟨w1.heap.size, 0, none⟩) 1 1] (w1.alloc (.cells #[.int .i64 0, .int .i64 0] 53)) fun e w' => ∃ a c, e = .returned (.tuple #[.slice none 0 0, .slice a 1 c, .int .i64 73]) ∧ Below w1.heap.size w1 w') := fun w1 b1 => (order_one 1 (prs_one w1 0 0) ((HT.out.later b1).later (below_alloc _ _))).mono fun e w' ⟨a, c, q1, q2⟩ => ⟨a, c, q1, (below_alloc w1 _).trans (q2.mono (below_alloc w1 _).size)⟩
  have HA : Hid (∀ w1, SB w1 w.heap.size 9 256 → Calls Tryd.prog 10 #[.pointer (some ⟨w.heap.size + 1, 0, none⟩), .int .i64 8] w1 fun e w' => e = .returned (.bool true) ∧ Below w1.heap.size w1 w') := fun w1 s1 => has_yes s1 8 (by decide)
  have CO : Hid (∀ w1, SB w1 w.heap.size 9 256 → Calls Tryd.prog 38 #[.pointer (some ⟨w.heap.size + 1, 0, none⟩)] w1 fun e w' => e = .returned (.int .i64 1) ∧ w' = w1) := fun w1 s1 => count_SB s1
  clear hT
  go_enter Tryd.func22, Tryd.ntmps22
  go_wp2_with (first
    | (go_at_call 5; refine NS.out.mono ?_; rintro e w1 ⟨rfl, s1, b1⟩; have W1 : Hid (SB w1 w.heap.size 9 0 ∧ Below w.heap.size w w1) := ⟨s1, b1⟩; clear s1 b1)
    | (go_at_call 6; refine (NU.out _ _).mono ?_; rintro e w9 ⟨rfl, hz⟩; rw [hz]; clear hz w9)
    | (go_at_call 7; refine (A8.out _ W1.out.1 W1.out.2).mono ?_))
  rintro e w2 ⟨rfl, s2, b2⟩
  have W2 : Hid (SB w2 w.heap.size 9 256 ∧ Below w.heap.size w w2) := ⟨s2, b2⟩
  clear s2 b2 W1 NS A8
  go_wp2_with (go_at_call 7; refine (A9.out _ W2.out.1 W2.out.2).mono ?_)
  rintro e w3 ⟨rfl, s3, b3⟩
  have W3 : Hid (SB w3 w.heap.size 9 256 ∧ Below w.heap.size w w3) := ⟨s3, b3⟩
  clear s3 b3 W2 A9
  go_wp2_with (go_at_call 41; refine (CL.out _ W3.out.2).mono ?_)
  rintro e w4 ⟨a4, c4, rfl, b4⟩
  have W4 : Hid (SB w4 w.heap.size 9 256 ∧ Below w.heap.size w w4) := ⟨W3.out.1.later b4, W3.out.2.trans (b4.mono W3.out.2.size)⟩
  clear b4 W3 CL
  go_wp2_with (go_at_call 42; refine (OR.out _ W4.out.2).mono ?_)
  rintro e w5 ⟨a5, c5, rfl, b5⟩
  have W5 : Hid (SB w5 w.heap.size 9 256 ∧ Below w.heap.size w w5) := ⟨W4.out.1.later b5, W4.out.2.trans (b5.mono W4.out.2.size)⟩
  clear b5 W4 OR
  go_wp2_with (first
    | (go_at_call 6; refine (NU.out _ _).mono ?_; rintro e w9 ⟨rfl, hz⟩; rw [hz]; clear hz w9)
    | (go_at_call 10; refine (HA.out _ W5.out.1).mono ?_; rintro e w6 ⟨rfl, b6⟩; have W6 : Hid (SB w6 w.heap.size 9 256 ∧ Below w.heap.size w w6) := ⟨W5.out.1.later b6, W5.out.2.trans (b6.mono W5.out.2.size)⟩; clear b6)
    | (go_at_call 38; refine (CO.out _ W6.out.1).mono ?_; rintro e w9 ⟨rfl, hz⟩; rw [hz]; clear hz w9))
  go_ret
  exact ⟨rfl, W6.out.2⟩
end Go.Proofs.YtcjejnenklppiaaDoor
