import Derived.Test.YtcgghlaifmlpiaaGreatDoorGSame2ToBR7
import Derived.Test.YtcgghlaifmlpiaaGreatDoorBC7ToBC8
import Derived.Test.YtcgghlaifmlpiaaGreatDoorBO1ToBD0
namespace Go.Proofs.YtcgghlaifmlpiaaGreatDoor
set_option linter.unusedVariables false
open Go.RowKit Go.Shelf

/-- A list of lists and an error. -/
def DgB (w : World) (c : Int) (L : List (List Int)) (e : Ending) (w' : World) : Prop := Below w.heap.size w w' ∧ ∃ a n cp, e = .returned (.tuple #[.slice a n cp, .int .i64 c]) ∧ n = L.length ∧ LrwB w' a L
theorem dg_both {w w' : World} {n most : Int} {F : List (List Int)} {E : List (Int × Int)} {e : Ending} (h : DgA w n most F E e w') : ∃ L, L.length ≤ 4096 ∧ (∀ l ∈ L, l.length ≤ 4096) ∧ DgB w (dgE n most F E) L e w' ∧ ∀ w5 e' w6, DpA w5 n most F E e' w6 → DgB w5 (dgE n most F E) L e' w6 := by
  obtain ⟨hb, ⟨hc, he⟩ | ⟨hc, k, m, b, Ms, V, hO, he, hL⟩⟩ := h
  · refine ⟨[], by simp, (fun l hl => by cases hl), ⟨hb, none, 0, 0, he, rfl, fun q => absurd rfl q⟩, ?_⟩
    rintro w5 e' w6 ⟨hb', ⟨_, he'⟩ | ⟨hc', _⟩⟩
    · exact ⟨hb', none, 0, 0, he', rfl, fun q => absurd rfl q⟩
    · exact absurd hc' hc
  · have hk := hO.le
    have hm := hO.mle
    refine ⟨(List.range k).map fun x => nI (bitsU (Ms.getD x 0) m), by simp; exact hk, fun l hl => ?_, ⟨hb, _, k, k, by rw [hc]; exact he, by simp, ?_⟩, ?_⟩
    · obtain ⟨x, _, rfl⟩ := List.mem_map.1 hl
      rw [nI_len, bitsU_len]
      exact Nat.le_trans (popB_le _ _) hm
    · have := hL.lrw
      rwa [List.map_map] at this
    · rintro w5 e' w6 ⟨hb', ⟨hc', _⟩ | ⟨_, k', m', a, c, Rs, h1, h2, _, _, hR, he', hL'⟩⟩
      · exact absurd hc hc'
      · have e1 := hO.n
        have e2 := hO.most
        obtain rfl : k = k' := by omega
        obtain rfl : m = m' := by omega
        rw [hO.same hR] at hL'
        exact ⟨hb', a, k, c, by rw [hc]; exact he', by simp, hL'⟩
theorem hq_intact {B : Nat} {w0 w : World} {q : Nat} {V : Nat → Value} {E : Nat → List HE} {n1 n8 : Nat} (h : HQ B w0 w q V E n1 n8) (h1 : n1 ≤ 5864062014720) (h8 : n8 ≤ 5864062014720) :
    Calls Tryz.prog 17 #[.pointer (some ⟨q, 0, none⟩)] w fun e w' => e = .returned (.bool true) ∧ Below w.heap.size w w' := qintact q V tyQ E w h.inv h.st (by rw [h.l1]; exact h1) (by rw [h.l8]; exact h8)
set_option maxRecDepth 100000 in
set_option maxHeartbeats 8000000 in
theorem digraphs_walk {w : World} (hT : TabB w) (n most : Int) (fa : Option Addr) (F : List (List Int)) (hF : LrwB w fa F) (hFl : F.length ≤ 5864062014650 ∧ ∀ l ∈ F, l.length ≤ 17592186044000) (fc : Nat) (ea : Option Addr) (E : List (Int × Int)) (hE : PrsB w ea E) (hEl : E.length ≤ 8796093022000) (ec : Nat) :
    Calls Tryz.prog 4 #[.int .i64 n, .int .i64 most, .slice fa F.length fc, .slice ea E.length ec] w fun e w' => e = .returned (.bool true) ∧ Below w.heap.size w w' := by
  have HT : Hid (TabB w) := hT
  have HF : Hid (LrwB w fa F ∧ F.length ≤ 140737488355328 ∧ (∀ l ∈ F, l.length ≤ 140737488355328)) := ⟨hF, by omega, fun l hl => by have := hFl.2 l hl; omega⟩
  have HE : Hid (PrsB w ea E ∧ E.length ≤ 140737488355328) := ⟨hE, by omega⟩
  have GL : Hid (Calls Tryz.prog 20 #[.pointer (some ⟨w.heap.size, 0, none⟩), .slice fa F.length fc] (w.alloc (.cells #[hNil, hNil, hNil, hNil, hNil, hNil, hNil, hNil, hNil, hNil, hNil, hNil, hNil, hNil, hNil, hNil, hNil, hNil, hNil, hNil, hNil, hNil] 35)) fun e w' => LsPq w.heap.size w (w.alloc (.cells #[hNil, hNil, hNil, hNil, hNil, hNil, hNil, hNil, hNil, hNil, hNil, hNil, hNil, hNil, hNil, hNil, hNil, hNil, hNil, hNil, hNil, hNil] 35)) w.heap.size 0 0 F e w') :=
    hq_lists (hq_new w) fa fc F (by omega) (fun wr hb => hF.later ((below_alloc w _).trans hb)) hFl.2
  have HLE : Hid (F.length ≤ 5864062014650 ∧ E.length ≤ 8796093022000) := ⟨hFl.1, hEl⟩
  clear hT hF hFl hE hEl
  generalize hfl : F.length = fl at *
  generalize hel : E.length = el at *
  have HFE : Hid (F.length = fl ∧ E.length = el) := ⟨hfl, hel⟩
  clear hfl hel
  go_enter Tryz.func4, Tryz.ntmps4
  go_wp2_with (go_at_call 20; refine GL.out.mono ?_)
  rintro e w2 ⟨a2, c2, V2, E2, rfl, k2, l2, o2, b2⟩
  have W2 : Hid (HQ w.heap.size w w2 w.heap.size V2 E2 (0 + F.length) 0 ∧ LsKq w2 V2 (.slice a2 F.length c2) F) := ⟨k2, l2⟩
  have GP : Hid (Calls Tryz.prog 6 #[.pointer (some ⟨w.heap.size, 0, none⟩), .slice ea el ec] w2 fun e w' => e = .returned (.slice (some ⟨w2.heap.size, 0, none⟩) el (el + 3)) ∧ (∃ V' E', HQ w.heap.size w w' w.heap.size V' E' (0 + F.length) 1 ∧ LsKq w' V' (.slice a2 F.length c2) F) ∧ PBq w' w2.heap.size E) := by
    have := hq_pair W2.out.1 (by omega) ea ec E (by have := HLE.out.2; have := HFE.out.2; omega) (HE.out.1.later W2.out.1.bel)
    rw [HFE.out.2] at this
    exact this.mono fun e w' ⟨q1, ⟨V', E', q2, q3⟩, q4, q5, q6⟩ => ⟨q1, ⟨V', E', q2, W2.out.2.hf W2.out.1.inv q3 q4⟩, q6⟩
  have hfe := HFE.out.1
  clear k2 l2 o2 b2 GL
  rw [hfe] at W2 GP ⊢
  clear hfe
  go_wp2_with (go_at_call 6; refine GP.out.mono ?_)
  rintro e w3 ⟨rfl, ⟨V3, E3, k3, l3⟩, p3⟩
  have W3 : Hid (HQ w.heap.size w w3 w.heap.size V3 E3 (0 + fl) 1) := k3
  have DG : Hid (Calls Tryz.prog 19 #[.int .i64 n, .int .i64 most, .slice a2 fl c2, .slice (some ⟨w2.heap.size, 0, none⟩) el (el + 3)] w3 (DgA w3 n most F E)) := by
    have hl3 : LrwB w3 a2 F := l3.row
    have := digraph_any n most w3 a2 c2 F hl3 (by rw [HFE.out.1]; exact HF.out.2.1) HF.out.2.2 (some ⟨w2.heap.size, 0, none⟩) (el + 3) E p3.row (by rw [HFE.out.2]; exact HE.out.2) (HT.out.later k3.bel)
    rwa [HFE.out.1, HFE.out.2] at this
  clear k3 l3 p3 GP W2
  go_wp2_with (go_at_call 19; refine DG.out.mono ?_)
  intro e w4 h4
  obtain ⟨L, hL1, hL2, ⟨b4, a4, n4, c4, rfl, hn4, r4⟩, hD⟩ := dg_both h4
  have B4 : Hid (Below w.heap.size w w4) := W3.out.bel.trans (b4.mono W3.out.sz)
  have W4 : Hid (HQ w.heap.size w w4 w.heap.size V3 E3 (0 + fl) 1 ∧ LrwB w4 a4 L ∧ n4 = L.length ∧ L.length ≤ 4096 ∧ ∀ l ∈ L, l.length ≤ 4096) := ⟨W3.out.later b4, r4, hn4, hL1, hL2⟩
  have DP : Hid (Calls Tryz.prog 21 #[.int .i64 n, .int .i64 most, .slice fa fl fc, .slice ea el ec] w4 (DgB w4 (dgE n most F E) L)) := by
    have := dig_any n most fa fc F (HF.out.1.later B4.out) (by rw [HFE.out.1]; exact HF.out.2.1) HF.out.2.2 ea ec E (HE.out.1.later B4.out) (by rw [HFE.out.2]; exact HE.out.2)
    rw [HFE.out.1, HFE.out.2] at this
    exact this.mono fun e w' q => hD w4 e w' q
  clear hL1 hL2 b4 hn4 r4 hD h4 DG W3
  generalize dgE n most F E = ce at *
  go_wp2_with (go_at_call 21; refine DP.out.mono ?_)
  rintro e w5 ⟨b5, a5, n5, c5, rfl, hn5, r5⟩
  have W5 : Hid (HQ w.heap.size w w5 w.heap.size V3 E3 (0 + fl) 1 ∧ Below w.heap.size w w5) := ⟨W4.out.1.later b5, B4.out.trans (b5.mono B4.out.size)⟩
  obtain rfl : n4 = n5 := W4.out.2.2.1.trans hn5.symm
  have SL : Hid (Calls Tryz.prog 15 #[.slice a4 n4 c4, .slice a5 n4 c5] w5 fun e w' => e = .returned (.bool true) ∧ Below w5.heap.size w5 w') := samelists_q a4 a5 n4 c4 c5 L w5 hn5 (by have := W4.out.2.2.2.1; omega) (fun l hl => by have := W4.out.2.2.2.2 l hl; omega) (W4.out.2.1.later b5) r5
  have NU : Hid (∀ (e : Int) (w : World), Calls Tryz.prog 14 #[.int .i64 e] w fun x w' => x = .returned (.int .i64 e) ∧ w' = w) := num_SB
  have cee : (ce == ce) = true := by simp
  clear b5 hn5 r5 DP W4 B4
  go_wp2_with (go_at_call 15; refine SL.out.mono ?_)
  rintro e w6 ⟨rfl, b6⟩
  have W6 : Hid (HQ w.heap.size w w6 w.heap.size V3 E3 (0 + fl) 1 ∧ Below w.heap.size w w6) := ⟨W5.out.1.later b6, W5.out.2.trans (b6.mono W5.out.2.size)⟩
  have IN : Hid (Calls Tryz.prog 17 #[.pointer (some ⟨w.heap.size, 0, none⟩)] w6 fun e w' => e = .returned (.bool true) ∧ Below w6.heap.size w6 w') := hq_intact W6.out.1 (by have := HLE.out.1; omega) (by omega)
  clear b6 SL W5
  go_wp2_with (first
    | (go_at_call 14; refine (NU.out _ _).mono ?_; rintro e w9 ⟨rfl, hz⟩; rw [hz]; clear hz w9)
    | (go_at_call 17; refine IN.out.mono ?_))
  rintro e w7 ⟨rfl, b7⟩
  have W7 : Hid (Below w.heap.size w w7) := W6.out.2.trans (b7.mono W6.out.2.size)
  have AL : Hid (Calls Tryz.prog 18 #[] w7 fun e w' => e = .returned (.bool true) ∧ Below w7.heap.size w7 w') := alive_SB (HT.out.later W7.out)
  clear b7 IN W6
  go_wp2_with (go_at_call 18; refine AL.out.mono ?_)
  rintro e w8 ⟨rfl, b8⟩
  have W8 : Hid (Below w.heap.size w w8) := W7.out.trans (b8.mono W7.out.size)
  clear b8
  go_wp2
  go_ret
  exact ⟨rfl, W8.out⟩
end Go.Proofs.YtcgghlaifmlpiaaGreatDoor
namespace Go.Proofs.YtcgghlaifmlpiaaGreatDoor
set_option linter.unusedVariables false
open Go.RowKit Go.Shelf

theorem rg_far {n : Int} {E : List (Int × Int)} (h : (decide (0 ≤ n) && decide (n ≤ 4096)) = false) : rgE n E = 4 := by
  unfold rgE
  rw [if_pos h]
theorem rg_bad {k : Nat} {E : List (Int × Int)} (hk : k ≤ 4096) (h : E.all (okE k) = false) : rgE (k : Int) E = 51 := by
  unfold rgE
  rw [if_neg (by rw [decide_eq_true (show (0 : Int) ≤ (k : Int) by omega), decide_eq_true (show (k : Int) ≤ 4096 by omega)]; simp), Int.toNat_natCast, if_pos h]
theorem rg_good {k : Nat} {E : List (Int × Int)} (hk : k ≤ 4096) (h : E.all (okE k) = true) : rgE (k : Int) E = 0 := by
  unfold rgE
  rw [if_neg (by rw [decide_eq_true (show (0 : Int) ≤ (k : Int) by omega), decide_eq_true (show (k : Int) ≤ 4096 by omega)]; simp), Int.toNat_natCast, if_neg (by rw [h]; simp)]
theorem pm_same {E : List (Int × Int)} {n : Nat} {Ns Ms : List Nat} {Rs : List (List Bool)} (hN : RelB E n Ns) (hok : E.all (okE n) = true) (hM : SolB Ns Ns n Ms) (hR : RxR E n Rs) : pmR Rs n n = prU Ms n n := by
  unfold pmR prU
  have : ∀ l : List Nat, (∀ x ∈ l, x < n) → (l.flatMap fun u => prR u (rlR (Rs.getD u []) n)) = l.flatMap fun x => prR x (bitsU (Ms.getD x 0) n) := by
    intro l
    induction l with
    | nil => intro _; rfl
    | cons x l ih =>
      intro hl
      rw [List.flatMap_cons, List.flatMap_cons, ih (fun y hy => hl y (List.mem_cons_of_mem _ hy))]
      congr 2
      unfold rlR bitsU
      apply List.filter_congr
      intro j hj
      have hj := List.mem_range.1 hj
      have hx := hl x (by simp)
      rw [Bool.eq_iff_iff, hR.bit x j hx, hM.bit x hx j, ← tr_same hN hok]
      constructor
      · intro h
        cases h with
        | single e => exact ⟨x, .refl x, e.2.2⟩
        | tail h e => exact ⟨_, .inr h, e.2.2⟩
      · rintro ⟨y, hy, hb⟩
        have hyn := hy.lt hx
        have e : EdB Ns n y j := ⟨hyn, hj, hb⟩
        rcases hy with rfl | hy
        · exact .single e
        · exact hy.tail e
  exact this _ fun x hx => List.mem_range.1 hx
/-- Pairs and an error. -/
def PgB (w : World) (c : Int) (L : List (Int × Int)) (e : Ending) (w' : World) : Prop := Below w.heap.size w w' ∧ ∃ a n cp, e = .returned (.tuple #[.slice a n cp, .int .i64 c]) ∧ n = L.length ∧ PrsB w' a L
theorem clo_both {w w' : World} {n : Int} {E : List (Int × Int)} {e : Ending} (h : ClA w n E e w') : ∃ L, L.length ≤ 16777216 ∧ PgB w (rgE n E) L e w' ∧ ∀ w5 e' w6, CpA w5 n E e' w6 → PgB w5 (rgE n E) L e' w6 := by
  obtain ⟨hb, h⟩ := h
  have bad : ∀ c, c ≠ 0 → rgE n E = c → e = .returned (.tuple #[.slice none 0 0, .int .i64 c]) → ∃ L, L.length ≤ 16777216 ∧ PgB w (rgE n E) L e w' ∧ ∀ w5 e' w6, CpA w5 n E e' w6 → PgB w5 (rgE n E) L e' w6 := fun c hc hr he => by
    refine ⟨[], by simp, ⟨hb, none, 0, 0, by rw [hr]; exact he, rfl, fun q => absurd rfl q⟩, ?_⟩
    rintro w5 e' w6 ⟨hb', ⟨_, he'⟩ | ⟨h0, _⟩⟩
    · exact ⟨hb', none, 0, 0, he', rfl, fun q => absurd rfl q⟩
    · exact absurd (hr ▸ h0) hc
  rcases h with ⟨h1, he⟩ | ⟨k, rfl, hk, h⟩
  · exact bad 4 (by decide) (rg_far h1) he
  · rcases h with ⟨h1, he⟩ | ⟨hok, v, Ns, Ms, he, hN, hM, hP⟩
    · exact bad 51 (by decide) (rg_bad hk h1) he
    · have hr := rg_good hk hok
      obtain ⟨a, c, rfl, hrow⟩ := hP.ro.read
      refine ⟨prU Ms k k, ?_, ⟨hb, a, _, c, by rw [hr]; exact he, rfl, hrow⟩, ?_⟩
      · have := prU_len Ms k hk k
        have h2 : 4096 * k ≤ 4096 * 4096 := Nat.mul_le_mul_left _ hk
        omega
      · rintro w5 e' w6 ⟨hb', ⟨h0, _⟩ | ⟨_, k', Rs, v', hk', _, hR, he', hP'⟩⟩
        · exact absurd hr h0
        · obtain rfl : k = k' := by omega
          rw [pm_same hN hok hM hR] at hP'
          obtain ⟨a', c', rfl, hrow'⟩ := hP'.read
          exact ⟨hb', a', _, c', by rw [hr]; exact he', rfl, hrow'⟩
theorem cmp_both {w w' : World} {n : Int} {E : List (Int × Int)} {e : Ending} (h : CoA w n E e w') : ∃ D : List (List Nat), D.length ≤ 4096 ∧ (∀ T ∈ D, T.length ≤ 4096) ∧ DgB w (rgE n E) (D.map nI) e w' ∧ (rgE n E = 0 → ∀ (k : Nat) Rs, n = (k : Int) → RxR E k Rs → GdD Rs k D) ∧ ∀ w5 e' w6, CqA w5 n E D e' w6 → DgB w5 (rgE n E) (D.map nI) e' w6 := by
  obtain ⟨hb, h⟩ := h
  have bad : ∀ c, c ≠ 0 → rgE n E = c → e = .returned (.tuple #[.slice none 0 0, .int .i64 c]) → ∃ D : List (List Nat), D.length ≤ 4096 ∧ (∀ T ∈ D, T.length ≤ 4096) ∧ DgB w (rgE n E) (D.map nI) e w' ∧ (rgE n E = 0 → ∀ (k : Nat) Rs, n = (k : Int) → RxR E k Rs → GdD Rs k D) ∧ ∀ w5 e' w6, CqA w5 n E D e' w6 → DgB w5 (rgE n E) (D.map nI) e' w6 := fun c hc hr he => by
    refine ⟨[], by simp, (fun T hT => by cases hT), ⟨hb, none, 0, 0, by rw [hr]; exact he, rfl, fun q => absurd rfl q⟩, fun h0 => absurd (hr ▸ h0) hc, ?_⟩
    rintro w5 e' w6 ⟨hb', ⟨_, he'⟩ | ⟨h0, _⟩⟩
    · exact ⟨hb', none, 0, 0, he', rfl, fun q => absurd rfl q⟩
    · exact absurd (hr ▸ h0) hc
  rcases h with ⟨h1, he⟩ | ⟨k, rfl, hk, h⟩
  · exact bad 4 (by decide) (rg_far h1) he
  · rcases h with ⟨h1, he⟩ | ⟨hok, v, V, D, Ns, w1, he, hN, _, hC⟩
    · exact bad 51 (by decide) (rg_bad hk h1) he
    · have hr := rg_good hk hok
      obtain ⟨a, c, rfl, hrow⟩ := hC.ls.read
      obtain ⟨C, hC1, hC2, hC3⟩ := hC.from_
      have hlt : ∀ T ∈ D, ∀ x ∈ T, x < k := fun T hT x hx => hC.co.toClB.lt hT hx
      have hDl : D.length ≤ k := by
        have hp := hC.co.dis
        have hne : ∀ T ∈ D, T.getD 0 0 ∈ T := fun T hT => by
          obtain ⟨_, r, hr, _⟩ := hC.co.cls T hT
          exact (rise_head (hC.rise T hT) (List.ne_nil_of_mem hr)).1
        have hn2 : (D.map fun T => T.getD 0 0).Nodup := by
          show List.Pairwise (· ≠ ·) _
          rw [List.pairwise_map]
          exact hp.imp_of_mem fun {T T'} hT hT' h => h _ (hne T hT) _ (hne T' hT')
        have := nodup_le (n := k) hn2 (fun x hx => by
          obtain ⟨T, hT, rfl⟩ := List.mem_map.1 hx
          exact hlt T hT _ (hne T hT))
        simpa using this
      refine ⟨D, by omega, fun T hT => ?_, ⟨hb, a, _, c, by rw [hr]; exact he, by simp, hrow.lrw⟩, fun _ k' Rs hk' hR => ?_, ?_⟩
      · have := nodup_le (n := k) ((hC.rise T hT).imp (fun h => Nat.ne_of_lt h)) (hlt T hT)
        omega
      · obtain rfl : k = k' := by omega
        exact gd_of hN hok hR hC1 hC2 hC3 hC.rise
      · rintro w5 e' w6 ⟨hb', ⟨h0, _⟩ | ⟨_, a', c', he', hL'⟩⟩
        · exact absurd hr h0
        · exact ⟨hb', a', _, c', by rw [hr]; exact he', by simp, hL'⟩
/-- Two lists and an error. -/
def TgB (w : World) (c : Int) (L1 L2 : List Int) (e : Ending) (w' : World) : Prop := Below w.heap.size w w' ∧ ∃ a1 n1 c1 a2 n2 c2, e = .returned (.tuple #[.slice a1 n1 c1, .slice a2 n2 c2, .int .i64 c]) ∧ n1 = L1.length ∧ n2 = L2.length ∧ InRow w' a1 L1 ∧ InRow w' a2 L2
theorem cn_some (E : List (Int × Int)) (n x m : Nat) : ∃ Cs, CnR E n x m Cs := by
  classical
  refine ⟨(List.range (m + 1)).map fun k => (List.range n).map fun y => decide (WkG (EdE E) x k y), ⟨fun k y hk hy => ?_⟩⟩
  have e1 : ((List.range (m + 1)).map fun k => (List.range n).map fun y => decide (WkG (EdE E) x k y)).getD k [] = (List.range n).map fun y => decide (WkG (EdE E) x k y) := by
    rw [List.getD_eq_getElem?_getD, List.getElem?_map, List.getElem?_range (by omega)]
    rfl
  rw [e1, List.getD_eq_getElem?_getD, List.getElem?_map, List.getElem?_range hy]
  simp
theorem ord_both {w w' : World} {n : Int} {E : List (Int × Int)} {e : Ending} (h : OrA w n E e w') : ∃ (Ns : List Nat) (L1 L2 : List Int) (c : Int), L1.length ≤ 4096 ∧ L2.length ≤ 4096 ∧ TgB w c L1 L2 e w' ∧ (rgE n E = 0 → ∀ k : Nat, n = (k : Int) → RelB E k Ns ∧ ((∀ s, 0 < s → s ≤ k → ∀ x, x < k → ¬ WkG (EdE E) x s x) → (placeU Ns k).length = k)) ∧ ∀ w5 e' w6, OqA w5 n E Ns e' w6 → TgB w5 c L1 L2 e' w6 := by
  obtain ⟨hb, h⟩ := h
  have noR : ∀ w a, InRow w a [] := fun w a q => absurd rfl q
  have bad : ∀ c, c ≠ 0 → rgE n E = c → e = .returned (.tuple #[.slice none 0 0, .slice none 0 0, .int .i64 c]) → ∃ (Ns : List Nat) (L1 L2 : List Int) (c : Int), L1.length ≤ 4096 ∧ L2.length ≤ 4096 ∧ TgB w c L1 L2 e w' ∧ (rgE n E = 0 → ∀ k : Nat, n = (k : Int) → RelB E k Ns ∧ ((∀ s, 0 < s → s ≤ k → ∀ x, x < k → ¬ WkG (EdE E) x s x) → (placeU Ns k).length = k)) ∧ ∀ w5 e' w6, OqA w5 n E Ns e' w6 → TgB w5 c L1 L2 e' w6 := fun c hc hr he => by
    refine ⟨[], [], [], c, by simp, by simp, ⟨hb, none, 0, 0, none, 0, 0, he, rfl, rfl, noR _ _, noR _ _⟩, fun h0 => absurd (hr ▸ h0) hc, ?_⟩
    rintro w5 e' w6 ⟨hb', ⟨_, he'⟩ | ⟨h0, _⟩⟩
    · exact ⟨hb', none, 0, 0, none, 0, 0, by rw [hr] at he'; exact he', rfl, rfl, noR _ _, noR _ _⟩
    · exact absurd (hr ▸ h0) hc
  rcases h with ⟨h1, he⟩ | ⟨k, rfl, hk, h⟩
  · exact bad 4 (by decide) (rg_far h1) he
  · rcases h with ⟨h1, he⟩ | ⟨hok, Ns, hN, h⟩
    · exact bad 51 (by decide) (rg_bad hk h1) he
    · have hr := rg_good hk hok
      have wk : ∀ {x j : Nat}, WkG (EdB Ns k) x j x ↔ WkG (EdE E) x j x := WkG.congr (fun a c => ed_same hN hok a c)
      rcases h with ⟨hfull, v, he, hL⟩ | ⟨hshort, v, Cy, he, hL, hC⟩
      · obtain ⟨a, c, rfl, hrow⟩ := hL.il.inrowR
        refine ⟨Ns, nI (placeU Ns k), [], 0, by rw [nI_len, hfull]; exact hk, by simp, ⟨hb, a, _, c, none, 0, 0, he, rfl, rfl, hrow, noR _ _⟩, fun _ k' hk' => ?_, ?_⟩
        · obtain rfl : k = k' := by omega
          exact ⟨hN, fun _ => hfull⟩
        · rintro w5 e' w6 ⟨hb', ⟨h0, _⟩ | ⟨_, k', hk', ⟨_, v', he', hL'⟩ | ⟨s, x1, Cs, v', q1, q2, q3, q4, _⟩⟩⟩
          · exact absurd hr h0
          · obtain rfl : k = k' := by omega
            obtain ⟨a', c', rfl, hrow'⟩ := hL'.il.inrowR
            exact ⟨hb', a', _, c', none, 0, 0, he', rfl, rfl, hrow', noR _ _⟩
          · exact absurd (wk.2 q4) (place_none hfull q1)
      · obtain ⟨Ms, s, hT, hs, hCy⟩ := hC.is
        have hx := cx_all (Ns := Ns) hT
        rw [hs] at hx
        rcases hx.have_ with ⟨hz, hall⟩ | ⟨a1, a2, a3, ⟨most, a4⟩, a5⟩
        · exfalso
          rw [hz] at hCy
          have e0 : arU Ns [] k 0 = [0] := rfl
          rw [e0] at hCy
          have hed := hC.ed 0 (by rw [hCy]; simp)
          rw [hCy] at hed
          simp only [List.length_singleton, Nat.mod_one, List.getD] at hed
          have hed0 : EdB Ns k 0 0 := by simpa using hed
          exact hall 0 hed0.1 1 (by decide) ⟨Nat.le_refl _, 0, hed0, rfl⟩
        · have hw : WkG (EdB Ns k) s.1 s.2.1 s.1 := by
            rcases a4 with ⟨h0, _⟩ | ⟨_, hw, _⟩
            · omega
            · rwa [a3] at hw
          have hlen : Cy.length = s.2.1 := by
            obtain ⟨Cs, hCs⟩ := cn_some E k s.1 s.2.1
            rw [hCy, ar_is hN hok a1 a4 a3 a2 hCs, bkC_len]
          have hmk : s.2.1 ≤ k := by rw [← hlen]; exact hC.le
          obtain ⟨a, c, rfl, hrow⟩ := hL.il.inrowR
          refine ⟨Ns, [], nI Cy, 73, by simp, by rw [nI_len]; have := hC.le; omega, ⟨hb, none, 0, 0, a, _, c, he, rfl, rfl, noR _ _, hrow⟩, fun _ k' hk' => ?_, ?_⟩
          · obtain rfl : k = k' := by omega
            exact ⟨hN, fun hno => absurd (wk.1 hw) (hno s.2.1 a2 hmk s.1 a1)⟩
          · rintro w5 e' w6 ⟨hb', ⟨h0, _⟩ | ⟨_, k', hk', ⟨hno, _⟩ | ⟨s1, x1, Cs, v', q1, q2, q3, q4, q5, q6, q7, he', hL'⟩⟩⟩
            · exact absurd hr h0
            · obtain rfl : k = k' := by omega
              exact absurd (wk.1 hw) (hno s.2.1 a2 hmk s.1 a1)
            · obtain rfl : k = k' := by omega
              have e1 := a5 x1 q3 s1 q1 (wk.2 q4)
              have e2 : s1 ≤ s.2.1 := by
                rcases Nat.lt_or_ge s.2.1 s1 with q | q
                · exact absurd (wk.1 hw) (q5 s.2.1 a2 q s.1 a1)
                · exact q
              obtain rfl : s1 = s.2.1 := by omega
              have e3 : x1 = s.1 := by
                rcases Nat.lt_trichotomy x1 s.1 with q | q | q
                · have := e1.2 q; omega
                · exact q
                · exact absurd (wk.1 hw) (q6 s.1 q)
              subst e3
              rw [← ar_is hN hok a1 a4 a3 a2 q7, ← hCy] at hL'
              obtain ⟨a', c', rfl, hrow'⟩ := hL'.il.inrowR
              exact ⟨hb', none, 0, 0, a', _, c', he', rfl, rfl, noR _ _, hrow'⟩
end Go.Proofs.YtcgghlaifmlpiaaGreatDoor
namespace Go.Proofs.YtcgghlaifmlpiaaGreatDoor
set_option linter.unusedVariables false
open Go.RowKit Go.Shelf

set_option maxRecDepth 100000 in
set_option maxHeartbeats 8000000 in
theorem relations_walk {w : World} (hT : TabB w) (n : Int) (ea : Option Addr) (E : List (Int × Int)) (hE : PrsB w ea E) (hEl : E.length ≤ 8796093022000) (ec : Nat) :
    Calls Tryz.prog 3 #[.int .i64 n, .slice ea E.length ec] w fun e w' => e = .returned (.bool true) ∧ Below w.heap.size w w' := by
  have HT : Hid (TabB w) := hT
  have HE : Hid (PrsB w ea E) := hE
  have GP : Hid (Calls Tryz.prog 6 #[.pointer (some ⟨w.heap.size, 0, none⟩), .slice ea E.length ec] (w.alloc (.cells #[hNil, hNil, hNil, hNil, hNil, hNil, hNil, hNil, hNil, hNil, hNil, hNil, hNil, hNil, hNil, hNil, hNil, hNil, hNil, hNil, hNil, hNil] 35)) fun e w' => ∃ g, e = .returned (.slice (some ⟨g, 0, none⟩) E.length (E.length + 3)) ∧ (∃ V' E', HQ w.heap.size w w' w.heap.size V' E' 0 1) ∧ PrsB w' (some ⟨g, 0, none⟩) E) :=
    (hq_pair (hq_new w) (by omega) ea ec E hEl (hE.later (below_alloc w _))).mono fun e w' ⟨q1, ⟨V', E', q2, _⟩, _, _, q6⟩ => ⟨_, q1, ⟨V', E', q2⟩, q6.row⟩
  have HLE : Hid (E.length ≤ 140737488355328) := by show _ ≤ _; omega
  have NU : Hid (∀ (e : Int) (w : World), Calls Tryz.prog 14 #[.int .i64 e] w fun x w' => x = .returned (.int .i64 e) ∧ w' = w) := num_SB
  clear hT hE hEl
  obtain ⟨el, hel⟩ : ∃ el, E.length = el := ⟨_, rfl⟩
  have HEL : Hid (E.length = el) := hel
  rw [hel] at GP ⊢
  clear hel
  go_enter Tryz.func3, Tryz.ntmps3
  go_wp2_with (go_at_call 6; refine GP.out.mono ?_)
  rintro e w2 ⟨g, rfl, ⟨V2, E2, k2⟩, p2⟩
  have W2 : Hid (HQ w.heap.size w w2 w.heap.size V2 E2 0 1 ∧ PrsB w2 (some ⟨g, 0, none⟩) E) := ⟨k2, p2⟩
  have C1 : Hid (Calls Tryz.prog 7 #[.int .i64 n, .slice (some ⟨g, 0, none⟩) el (el + 3)] w2 (ClA w2 n E)) := by
    have := closure_any n w2 (some ⟨g, 0, none⟩) (el + 3) E p2 HLE.out (HT.out.later k2.bel)
    rwa [HEL.out] at this
  clear k2 p2 GP
  go_wp2_with (go_at_call 7; refine C1.out.mono ?_)
  intro e w3 h3
  obtain ⟨LA, lA, ⟨b3, a3, n3, c3, rfl, hn3, r3⟩, hD3⟩ := clo_both h3
  have W3 : Hid (HQ w.heap.size w w3 w.heap.size V2 E2 0 1 ∧ PrsB w3 (some ⟨g, 0, none⟩) E ∧ PrsB w3 a3 LA ∧ n3 = LA.length ∧ LA.length ≤ 16777216) := ⟨W2.out.1.later b3, W2.out.2.later b3, r3, hn3, lA⟩
  have C2 : Hid (Calls Tryz.prog 8 #[.int .i64 n, .slice ea el ec] w3 (PgB w3 (rgE n E) LA)) := by
    have hE3 := HE.out.later W3.out.1.bel
    have : Calls Tryz.prog 8 #[.int .i64 n, .slice ea E.length ec] w3 (CpA w3 n E) := by
      by_cases h0 : rgE n E = 0
      · exact clo_yes n ea ec E hE3 HLE.out h0
      · exact clo_no n ea ec E hE3 HLE.out h0
    rw [HEL.out] at this
    exact this.mono fun e w' q => hD3 w3 e w' q
  clear b3 r3 hn3 hD3 h3 lA C1 W2
  go_wp2_with (go_at_call 8; refine C2.out.mono ?_)
  rintro e w4 ⟨b4, a4, n4, c4, rfl, hn4, r4⟩
  obtain rfl : n3 = n4 := W3.out.2.2.2.1.trans hn4.symm
  have W4 : Hid (HQ w.heap.size w w4 w.heap.size V2 E2 0 1 ∧ PrsB w4 (some ⟨g, 0, none⟩) E ∧ PrsB w4 a3 LA ∧ PrsB w4 a4 LA ∧ n3 = LA.length ∧ LA.length ≤ 16777216) := ⟨W3.out.1.later b4, W3.out.2.1.later b4, W3.out.2.2.1.later b4, r4, hn4, W3.out.2.2.2.2⟩
  have C3 : Hid (Calls Tryz.prog 9 #[.int .i64 n, .slice (some ⟨g, 0, none⟩) el (el + 3)] w4 (CoA w4 n E)) := by
    have := components_any n w4 (some ⟨g, 0, none⟩) (el + 3) E W4.out.2.1 HLE.out (HT.out.later W4.out.1.bel)
    rwa [HEL.out] at this
  clear b4 r4 hn4 C2 W3
  go_wp2_with (go_at_call 9; refine C3.out.mono ?_)
  intro e w5 h5
  obtain ⟨D, lD, lD2, ⟨b5, a5, n5, c5, rfl, hn5, r5⟩, hG5, hD5⟩ := cmp_both h5
  have W5 : Hid (HQ w.heap.size w w5 w.heap.size V2 E2 0 1 ∧ PrsB w5 (some ⟨g, 0, none⟩) E ∧ PrsB w5 a3 LA ∧ PrsB w5 a4 LA ∧ LrwB w5 a5 (D.map nI)) := ⟨W4.out.1.later b5, W4.out.2.1.later b5, W4.out.2.2.1.later b5, W4.out.2.2.2.1.later b5, r5⟩
  have HL5 : Hid (n3 = LA.length ∧ LA.length ≤ 16777216 ∧ n5 = (D.map nI).length ∧ D.length ≤ 4096 ∧ ∀ T ∈ D, T.length ≤ 4096) := ⟨W4.out.2.2.2.2.1, W4.out.2.2.2.2.2, hn5, lD, lD2⟩
  have C4 : Hid (Calls Tryz.prog 10 #[.int .i64 n, .slice ea el ec] w5 (DgB w5 (rgE n E) (D.map nI))) := by
    have := cmp_any n ea ec E D (HE.out.later W5.out.1.bel) HLE.out hG5
    rw [HEL.out] at this
    exact this.mono fun e w' q => hD5 w5 e w' q
  clear b5 r5 hn5 hD5 h5 lD lD2 hG5 C3 W4
  go_wp2_with (go_at_call 10; refine C4.out.mono ?_)
  rintro e w6 ⟨b6, a6, n6, c6, rfl, hn6, r6⟩
  obtain rfl : n5 = n6 := HL5.out.2.2.1.trans hn6.symm
  have W6 : Hid (HQ w.heap.size w w6 w.heap.size V2 E2 0 1 ∧ PrsB w6 (some ⟨g, 0, none⟩) E ∧ PrsB w6 a3 LA ∧ PrsB w6 a4 LA ∧ LrwB w6 a5 (D.map nI) ∧ LrwB w6 a6 (D.map nI)) := ⟨W5.out.1.later b6, W5.out.2.1.later b6, W5.out.2.2.1.later b6, W5.out.2.2.2.1.later b6, W5.out.2.2.2.2.later b6, r6⟩
  have C5 : Hid (Calls Tryz.prog 11 #[.int .i64 n, .slice (some ⟨g, 0, none⟩) el (el + 3)] w6 (OrA w6 n E)) := by
    have := order_any n w6 (some ⟨g, 0, none⟩) (el + 3) E W6.out.2.1 HLE.out (HT.out.later W6.out.1.bel)
    rwa [HEL.out] at this
  clear b6 r6 hn6 C4 W5
  go_wp2_with (go_at_call 11; refine C5.out.mono ?_)
  intro e w7 h7
  obtain ⟨Ns, L1, L2, co, l1, l2, ⟨b7, o1, m1, k1, o2, m2, k2, rfl, hm1, hm2, s1, s2⟩, hN7, hD7⟩ := ord_both h7
  have W7 : Hid (HQ w.heap.size w w7 w.heap.size V2 E2 0 1 ∧ PrsB w7 a3 LA ∧ PrsB w7 a4 LA ∧ LrwB w7 a5 (D.map nI) ∧ LrwB w7 a6 (D.map nI) ∧ InRow w7 o1 L1 ∧ InRow w7 o2 L2) := ⟨W6.out.1.later b7, W6.out.2.2.1.later b7, W6.out.2.2.2.1.later b7, W6.out.2.2.2.2.1.later b7, W6.out.2.2.2.2.2.later b7, s1, s2⟩
  have HL7 : Hid (m1 = L1.length ∧ m2 = L2.length ∧ L1.length ≤ 4096 ∧ L2.length ≤ 4096) := ⟨hm1, hm2, l1, l2⟩
  have C6 : Hid (Calls Tryz.prog 12 #[.int .i64 n, .slice ea el ec] w7 (TgB w7 co L1 L2)) := by
    have := ord_any n ea ec E Ns (HE.out.later W7.out.1.bel) HLE.out hN7
    rw [HEL.out] at this
    exact this.mono fun e w' q => hD7 w7 e w' q
  clear b7 s1 s2 hm1 hm2 hN7 hD7 h7 l1 l2 C5 W6
  go_wp2_with (go_at_call 12; refine C6.out.mono ?_)
  rintro e w8 ⟨b8, q1, m3, k3, q2, m4, k4, rfl, hm3, hm4, t1, t2⟩
  obtain rfl : m1 = m3 := HL7.out.1.trans hm3.symm
  obtain rfl : m2 = m4 := HL7.out.2.1.trans hm4.symm
  have W8 : Hid (HQ w.heap.size w w8 w.heap.size V2 E2 0 1 ∧ PrsB w8 a3 LA ∧ PrsB w8 a4 LA ∧ LrwB w8 a5 (D.map nI) ∧ LrwB w8 a6 (D.map nI) ∧ InRow w8 o1 L1 ∧ InRow w8 o2 L2 ∧ InRow w8 q1 L1 ∧ InRow w8 q2 L2) := ⟨W7.out.1.later b8, W7.out.2.1.later b8, W7.out.2.2.1.later b8, W7.out.2.2.2.1.later b8, W7.out.2.2.2.2.1.later b8, W7.out.2.2.2.2.2.1.laterR b8, W7.out.2.2.2.2.2.2.laterR b8, t1, t2⟩
  have D1 : Hid (Calls Tryz.prog 13 #[.slice a3 n3 c3, .slice a4 n3 c4] w8 fun e w' => e = .returned (.bool true) ∧ ∃ d, w' = w8.drewN d) := samepairs_h a3 a4 n3 n3 c3 c4 LA w8 HL5.out.1 HL5.out.1 (by have := HL5.out.2.1; omega) W8.out.2.1 W8.out.2.2.1
  have D2 : Hid (∀ w', Below w8.heap.size w8 w' → Calls Tryz.prog 15 #[.slice a5 n5 c5, .slice a6 n5 c6] w' fun e w'' => e = .returned (.bool true) ∧ Below w'.heap.size w' w'') := fun w' hb => samelists_q a5 a6 n5 c5 c6 (D.map nI) w' HL5.out.2.2.1 (by have := HL5.out.2.2.2.1; simp; omega) (fun l hl => by
    obtain ⟨T, hT, rfl⟩ := List.mem_map.1 hl
    have := HL5.out.2.2.2.2 T hT
    rw [nI_len]; omega) (W8.out.2.2.2.1.later hb) (W8.out.2.2.2.2.1.later hb)
  have D3 : Hid (∀ w', Below w8.heap.size w8 w' → Calls Tryz.prog 16 #[.slice o1 m1 k1, .slice q1 m1 k3] w' fun e w'' => e = .returned (.bool true) ∧ Below w'.heap.size w' w'') := fun w' hb => (sameints_g o1 q1 m1 m1 k1 k3 L1 w' HL7.out.1 HL7.out.1 (by have := HL7.out.2.2.1; omega) (W8.out.2.2.2.2.2.1.laterR hb) (W8.out.2.2.2.2.2.2.2.1.laterR hb)).mono fun e w'' ⟨p1, d, p2⟩ => ⟨p1, by rw [p2]; exact below_drewN (Below.refl _ _) d⟩
  have D4 : Hid (∀ w', Below w8.heap.size w8 w' → Calls Tryz.prog 16 #[.slice o2 m2 k2, .slice q2 m2 k4] w' fun e w'' => e = .returned (.bool true) ∧ Below w'.heap.size w' w'') := fun w' hb => (sameints_g o2 q2 m2 m2 k2 k4 L2 w' HL7.out.2.1 HL7.out.2.1 (by have := HL7.out.2.2.2; omega) (W8.out.2.2.2.2.2.2.1.laterR hb) (W8.out.2.2.2.2.2.2.2.2.laterR hb)).mono fun e w'' ⟨p1, d, p2⟩ => ⟨p1, by rw [p2]; exact below_drewN (Below.refl _ _) d⟩
  have HQ8 : Hid (HQ w.heap.size w w8 w.heap.size V2 E2 0 1) := W8.out.1
  clear b8 t1 t2 hm3 hm4 C6 W7 W8
  generalize rgE n E = ce at *
  have cee : (ce == ce) = true := by simp
  have coo : (co == co) = true := by simp
  go_wp2_with (go_at_call 13; refine D1.out.mono ?_)
  rintro e w9 ⟨rfl, d9, hw9⟩
  have B9 : Hid (Below w8.heap.size w8 w9) := by rw [hw9]; exact below_drewN (Below.refl _ _) d9
  have E2 : Hid (Calls Tryz.prog 15 #[.slice a5 n5 c5, .slice a6 n5 c6] w9 fun e w'' => e = .returned (.bool true) ∧ Below w9.heap.size w9 w'') := D2.out w9 B9.out
  clear hw9 D1 D2
  go_wp2_with (first
    | (go_at_call 14; refine (NU.out _ _).mono ?_; rintro e wz ⟨rfl, hz⟩; rw [hz]; clear hz wz)
    | (go_at_call 15; refine E2.out.mono ?_))
  rintro e w10 ⟨rfl, b10⟩
  have B10 : Hid (Below w8.heap.size w8 w10) := B9.out.trans (b10.mono B9.out.size)
  have E3 : Hid (Calls Tryz.prog 16 #[.slice o1 m1 k1, .slice q1 m1 k3] w10 fun e w'' => e = .returned (.bool true) ∧ Below w10.heap.size w10 w'') := D3.out w10 B10.out
  clear b10 E2 D3 B9
  go_wp2_with (first
    | (go_at_call 14; refine (NU.out _ _).mono ?_; rintro e wz ⟨rfl, hz⟩; rw [hz]; clear hz wz)
    | (go_at_call 16; refine E3.out.mono ?_))
  rintro e w11 ⟨rfl, b11⟩
  have B11 : Hid (Below w8.heap.size w8 w11) := B10.out.trans (b11.mono B10.out.size)
  have E4 : Hid (Calls Tryz.prog 16 #[.slice o2 m2 k2, .slice q2 m2 k4] w11 fun e w'' => e = .returned (.bool true) ∧ Below w11.heap.size w11 w'') := D4.out w11 B11.out
  clear b11 E3 D4 B10
  go_wp2_with (go_at_call 16; refine E4.out.mono ?_)
  rintro e w12 ⟨rfl, b12⟩
  have B12 : Hid (Below w8.heap.size w8 w12) := B11.out.trans (b12.mono B11.out.size)
  have W12 : Hid (HQ w.heap.size w w12 w.heap.size V2 E2 0 1) := HQ8.out.later B12.out
  have IN : Hid (Calls Tryz.prog 17 #[.pointer (some ⟨w.heap.size, 0, none⟩)] w12 fun e w' => e = .returned (.bool true) ∧ Below w12.heap.size w12 w') := hq_intact W12.out (by omega) (by omega)
  clear b12 E4 B11 B12
  go_wp2_with (first
    | (go_at_call 14; refine (NU.out _ _).mono ?_; rintro e wz ⟨rfl, hz⟩; rw [hz]; clear hz wz)
    | (go_at_call 17; refine IN.out.mono ?_))
  rintro e w13 ⟨rfl, b13⟩
  have W13 : Hid (Below w.heap.size w w13) := W12.out.bel.trans (b13.mono W12.out.sz)
  have AL : Hid (Calls Tryz.prog 18 #[] w13 fun e w' => e = .returned (.bool true) ∧ Below w13.heap.size w13 w') := alive_SB (HT.out.later W13.out)
  clear b13 IN W12
  go_wp2_with (go_at_call 18; refine AL.out.mono ?_)
  rintro e w14 ⟨rfl, b14⟩
  have W14 : Hid (Below w.heap.size w w14) := W13.out.trans (b14.mono W13.out.size)
  clear b14
  go_wp2
  go_ret
  exact ⟨rfl, W14.out⟩
end Go.Proofs.YtcgghlaifmlpiaaGreatDoor
