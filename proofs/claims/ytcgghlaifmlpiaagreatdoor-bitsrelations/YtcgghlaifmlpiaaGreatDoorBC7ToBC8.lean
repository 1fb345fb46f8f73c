import Derived.Test.YtcgghlaifmlpiaaGreatDoorBC6
namespace Go.Proofs.YtcgghlaifmlpiaaGreatDoor
set_option linter.unusedVariables false
open Go.RowKit Go.Shelf

set_option maxRecDepth 100000 in
set_option maxHeartbeats 8000000 in
theorem less_no {w : World} (la lb : Option Addr) (na nb ca cb : Nat) (x y : Nat) (A B : List Nat) (hA : InRow w la (nI (x :: A))) (hB : InRow w lb (nI (y :: B))) (hna : na = A.length + 1) (hnb : nb = B.length + 1) (hxy : y < x) (hl : A.length ≤ 100000) :
    Calls Tryz.prog 93 #[.slice la na ca, .slice lb nb cb] w fun e w' => e = .returned (.bool false) ∧ Below w.heap.size w w' := by
  subst hna hnb
  obtain ⟨ab, ao, hae, _, c0⟩ := hA.atR (i := 0) (by simp [nI])
  obtain ⟨bb, bo, hbe, _, c1⟩ := hB.atR (i := 0) (by simp [nI])
  have d0 : w.cell? ⟨ab, ao, none⟩ = some (.int .i64 (x : Int)) := by simpa [nI, List.getD] using c0
  have d1 : w.cell? ⟨bb, bo, none⟩ = some (.int .i64 (y : Int)) := by simpa [nI, List.getD] using c1
  subst hae hbe
  clear hA hB c0 c1
  have n1 : ((x : Int) != (y : Int)) = true := by simp; omega
  have n2 : (x != y) = true := by simp; omega
  have n3 : decide ((x : Int) < (y : Int)) = false := decide_eq_false (by omega)
  have n4 : decide (x < y) = false := decide_eq_false (by omega)
  have n5 : ¬ x < y := by omega
  have p1 : (0 : Int) < (A.length : Int) + 1 := by omega
  have p2 : (0 : Int) < (B.length : Int) + 1 := by omega
  have p3 : 0 < A.length + 1 := by omega
  have p4 : 0 < B.length + 1 := by omega
  go_enter Tryz.func93, Tryz.ntmps93
  go_wp2
  go_loopw [5] (fun z wr => z = .int .i64 0 ∧ wr = w) (fun _ _ => 0)
  case atStart => exact ⟨rfl, rfl⟩
  case round =>
    obtain ⟨rfl, rfl⟩ := hrel
    go_wp2
    go_quiet (fail)
    go_wp2
    go_quiet (fail)
    go_wp2
    go_ret
    exact ⟨rfl, below_drewN (below_drewN (Below.refl _ _) _) _⟩
/-- What is the best so far: none, or that of the first that goes round. -/
def BsC (w : World) (E : List (Int × Int)) (n s x : Nat) (v : Value) (wr : World) : Prop := ((∀ x', x' < x → ¬ WkG (EdE E) x' s x') ∧ v = .slice none 0 0) ∨ ∃ x1 Cs, x1 < x ∧ WkG (EdE E) x1 s x1 ∧ (∀ x', x' < x1 → ¬ WkG (EdE E) x' s x') ∧ CnR E n x1 s Cs ∧ LBs w (nI (bkC E n Cs s x1)) v wr
/-- What the page's cycle answers. -/
def CyA (w : World) (E : List (Int × Int)) (n : Nat) (e : Ending) (w' : World) : Prop := Below w.heap.size w w' ∧ (((∀ s, 0 < s → s ≤ n → ∀ x, x < n → ¬ WkG (EdE E) x s x) ∧ e = .returned (.slice none 0 0)) ∨ ∃ s x1 Cs v, 0 < s ∧ s ≤ n ∧ x1 < n ∧ WkG (EdE E) x1 s x1 ∧ (∀ s', 0 < s' → s' < s → ∀ x, x < n → ¬ WkG (EdE E) x s' x) ∧ (∀ x', x' < x1 → ¬ WkG (EdE E) x' s x') ∧ CnR E n x1 s Cs ∧ e = .returned v ∧ LBs w (nI (bkC E n Cs s x1)) v w')
theorem bkC_cons (E : List (Int × Int)) (n : Nat) (Cs : List (List Bool)) {s : Nat} (hs : 0 < s) (x : Nat) : ∃ A, bkC E n Cs s x = x :: A ∧ A.length + 1 = s := by
  obtain ⟨k, rfl⟩ : ∃ k, s = k + 1 := ⟨s - 1, by omega⟩
  exact ⟨_, rfl, by rw [bkC_len]⟩
theorem LBs.cons {w wr : World} {x : Nat} {A : List Nat} {v : Value} (h : LBs w (nI (x :: A)) v wr) : ∃ a c, v = .slice a (A.length + 1) c ∧ InRow wr a (nI (x :: A)) := by
  obtain ⟨a, c, e, hr⟩ := h.il.inrowR
  exact ⟨a, c, by rw [e, nI_len]; rfl, hr⟩
set_option maxRecDepth 100000 in
set_option maxHeartbeats 8000000 in
theorem cycle_R {w : World} {n : Nat} (hn : n ≤ 4096) (ea : Option Addr) (ec : Nat) (E : List (Int × Int)) (hE : PrsB w ea E) (hEl : E.length ≤ 140737488355328) (hok : E.all (okE n) = true) :
    Calls Tryz.prog 39 #[.int .i64 (n : Int), .slice ea E.length ec] w (CyA w E n) := by
  have BK : Hid (∀ wr x sz, Below w.heap.size w wr → x < n → 0 < sz → sz ≤ n → Calls Tryz.prog 92 #[.int .i64 (n : Int), .slice ea E.length ec, .int .i64 (x : Int), .int .i64 (sz : Int)] wr (BkA wr E n x sz)) := fun wr x sz hb hx h1 h2 => back_R hn hx h1 h2 ea ec E (hE.later hb) hEl hok
  clear hE hok
  generalize E.length = el at *
  go_enter Tryz.func39, Tryz.ntmps39
  go_wp2
  go_loopw [5] (fun z wr => ∃ (s : Nat), 0 < s ∧ s ≤ n + 1 ∧ z = .int .i64 (s : Int) ∧ Below w.heap.size w wr ∧ ∀ s', 0 < s' → s' < s → ∀ x, x < n → ¬ WkG (EdE E) x s' x) (fun z _ => n + 1 - (intOf z).toNat)
  case atStart => exact ⟨1, by omega, by omega, rfl, Below.refl _ _, fun s' h1 h2 => by omega⟩
  case round =>
    obtain ⟨s, hs0, hs1, rfl, hbw, hno⟩ := hrel
    have HNO : Hid (∀ s', 0 < s' → s' < s → ∀ x, x < n → ¬ WkG (EdE E) x s' x) := hno
    have HBW : Hid (Below w.heap.size w wr) := hbw
    clear hno hbw
    by_cases hsn : s ≤ n
    · have sli : (s : Int) ≤ (n : Int) := by omega
      go_wp2
      go_loopw [6, 7] (fun v z wr => ∃ (x : Nat), x ≤ n ∧ z = .int .i64 (x : Int) ∧ Below w.heap.size w wr ∧ BsC w E n s x v wr) (fun _ z _ => n - (intOf z).toNat)
      case atStart => exact ⟨0, Nat.zero_le _, rfl, HBW.out, .inl ⟨fun x' hx' => absurd hx' (Nat.not_lt_zero x'), rfl⟩⟩
      case round =>
        clear HBW
        obtain ⟨x, hx, rfl, hbw, hBs⟩ := hrel
        by_cases hlt : x < n
        · have xlt : (x : Int) < (n : Int) := by omega
          have B1 : Hid (Calls Tryz.prog 92 #[.int .i64 (n : Int), .slice ea el ec, .int .i64 (x : Int), .int .i64 (s : Int)] wr (BkA wr E n x s)) := BK.out wr x s hbw hlt hs0 hsn
          have HB0 : Hid (Below w.heap.size w wr ∧ BsC w E n s x u6 wr) := ⟨hbw, hBs⟩
          clear hbw hBs
          go_wp2_with (go_at_call 92; refine B1.out.mono ?_)
          rintro e w2 ⟨b2, Cs, hCs, (⟨hnw, rfl⟩ | ⟨hw, v, rfl, hl⟩)⟩
          · have HB2 : Hid (Below w.heap.size w w2 ∧ BsC w E n s (x + 1) u6 w2) := by
              refine ⟨HB0.out.1.trans (b2.mono HB0.out.1.size), ?_⟩
              rcases HB0.out.2 with ⟨h1, h2⟩ | ⟨x1, Cs1, h1, h2, h3, h4, h5⟩
              · refine .inl ⟨fun x' hx' => ?_, h2⟩
                rcases Nat.lt_or_ge x' x with q | q
                · exact h1 x' q
                · obtain rfl : x' = x := by omega
                  exact hnw
              · exact .inr ⟨x1, Cs1, by omega, h2, h3, h4, h5.any b2⟩
            clear hCs hnw b2 HB0
            go_wp2
            go_roundw
            case rel => exact ⟨x + 1, by omega, by go_num, HB2.out.1, HB2.out.2⟩
            case measure => simp [intOf]; omega
          · obtain ⟨A, hA, hAl⟩ := bkC_cons E n Cs hs0 x
            have hl2 := hl
            rw [hA] at hl
            obtain ⟨va, vc, rfl, hrow⟩ := hl.cons
            have ali : (0 : Int) < (A.length : Int) + 1 := by omega
            have all : A.length ≤ 100000 := by omega
            have b02 : Below w.heap.size w w2 := HB0.out.1.trans (b2.mono HB0.out.1.size)
            rcases HB0.out.2 with ⟨h1, h2⟩ | ⟨x1, Cs1, h1, h2, h3, h4, h5⟩
            · have HB2 : Hid (Below w.heap.size w w2 ∧ BsC w E n s (x + 1) (.slice va (A.length + 1) vc) w2) := ⟨b02, .inr ⟨x, Cs, Nat.lt_succ_self x, hw, h1, hCs, hl2.il, fun j hj => Nat.le_trans HB0.out.1.size (hl2.own j hj), b02⟩⟩
              subst h2
              clear hCs hw b2 HB0 hl hl2 hrow b02 h1 hA hAl
              generalize A.length = al at *
              go_wp2
              go_roundw
              case rel => exact ⟨x + 1, by omega, by go_num, HB2.out.1, HB2.out.2⟩
              case measure => simp [intOf]; omega
            · obtain ⟨A1, hA1, hA1l⟩ := bkC_cons E n Cs1 hs0 x1
              have h6 := h5.any b2
              have HB2 : Hid (Below w.heap.size w w2 ∧ BsC w E n s (x + 1) u6 w2) := ⟨b02, .inr ⟨x1, Cs1, by omega, h2, h3, h4, h6⟩⟩
              rw [hA1] at h6
              obtain ⟨ua, uc, hue, hrow1⟩ := h6.cons
              have LS : Hid (Calls Tryz.prog 93 #[.slice va (A.length + 1) vc, .slice ua (A1.length + 1) uc] w2 fun e w' => e = .returned (.bool false) ∧ Below w2.heap.size w2 w') := less_no va ua _ _ vc uc x x1 A A1 hrow hrow1 rfl rfl h1 all
              have ali1 : (0 : Int) < (A1.length : Int) + 1 := by omega
              have ae1 : ((A1.length : Int) + 1 == 0) = false := by rw [beq_eq_false_iff_ne]; omega
              have HBN : Hid (∀ w', Below w2.heap.size w2 w' → Below w.heap.size w w' ∧ BsC w E n s (x + 1) u6 w') := fun w' hb => ⟨HB2.out.1.trans (hb.mono HB2.out.1.size), by
                rcases HB2.out.2 with ⟨q1, q2⟩ | ⟨y1, Ds, q1, q2, q3, q4, q5⟩
                · exact .inl ⟨q1, q2⟩
                · exact .inr ⟨y1, Ds, q1, q2, q3, q4, q5.any hb⟩⟩
              subst hue
              clear hCs hw b2 HB0 hl hl2 hrow hrow1 b02 h1 h2 h3 h4 h5 h6 hA hAl hA1 hA1l HB2
              generalize A.length = al at *
              generalize A1.length = al1 at *
              go_wp2_with (go_at_call 93; refine LS.out.mono ?_; rintro e w3 ⟨rfl, b3⟩; have B3 : Hid (Below w2.heap.size w2 w3) := b3; clear b3)
              go_roundw
              case rel => exact ⟨x + 1, by omega, by go_num, (HBN.out _ B3.out).1, (HBN.out _ B3.out).2⟩
              case measure => simp [intOf]; omega
        · have xlt : ¬ (x : Int) < (n : Int) := by omega
          obtain rfl : n = x := by omega
          rcases hBs with ⟨h1, h2⟩ | ⟨x1, Cs1, h1, h2, h3, h4, h5⟩
          · have HN2 : Hid (Below w.heap.size w wr ∧ ∀ s', 0 < s' → s' < s + 1 → ∀ x, x < n → ¬ WkG (EdE E) x s' x) := ⟨hbw, fun s' q1 q2 => by
              rcases Nat.lt_or_ge s' s with q | q
              · exact HNO.out s' q1 q
              · obtain rfl : s' = s := by omega
                exact h1⟩
            subst h2
            clear h1 hbw
            go_wp2
            go_roundw
            case rel => exact ⟨s + 1, by omega, by omega, by go_num, HN2.out.1, HN2.out.2⟩
            case measure => simp [intOf]; omega
          · obtain ⟨A1, hA1, hA1l⟩ := bkC_cons E n Cs1 hs0 x1
            have HX : Hid (CyA w E n (.returned u6) wr) := ⟨hbw, .inr ⟨s, x1, Cs1, u6, hs0, hsn, h1, h2, HNO.out, h3, h4, rfl, h5⟩⟩
            rw [hA1] at h5
            obtain ⟨ua, uc, rfl, _⟩ := h5.cons
            have ali1 : (0 : Int) < (A1.length : Int) + 1 := by omega
            clear h1 h2 h3 h4 h5 hA1 hA1l hbw
            generalize A1.length = al1 at *
            go_wp2
            go_ret
            exact HX.out
    · have sli : ¬ (s : Int) ≤ (n : Int) := by omega
      go_wp2
      go_ret
      exact ⟨HBW.out, .inl ⟨fun s' h1 h2 => HNO.out s' h1 (by omega), rfl⟩⟩
end Go.Proofs.YtcgghlaifmlpiaaGreatDoor
namespace Go.Proofs.YtcgghlaifmlpiaaGreatDoor
set_option linter.unusedVariables false
open Go.RowKit Go.Shelf

/-- May x be placed next, by the first i edges? -/
def moR (E : List (Int × Int)) (A : List Nat) (x i : Nat) : Bool := !decide (x ∈ A) && (E.take i).all fun p => decide (p.1 ≠ (x : Int)) || decide (p.2.toNat ∈ A)
theorem moR_next {E : List (Int × Int)} {A : List Nat} {x i : Nat} {p : Int × Int} (h : E[i]? = some p) : moR E A x (i + 1) = (moR E A x i && (decide (p.1 ≠ (x : Int)) || decide (p.2.toNat ∈ A))) := by
  unfold moR
  rw [takeE h, List.all_append]
  simp [Bool.and_assoc]
theorem moR_full {E : List (Int × Int)} {n : Nat} {Ns : List Nat} (hN : RelB E n Ns) (hok : E.all (okE n) = true) {A : List Nat} {P x : Nat} (hx : x < n) (hP : ∀ z, P.testBit z = true ↔ z ∈ A) : moR E A x E.length = cdB Ns n P x := by
  rw [Bool.eq_iff_iff]
  unfold moR
  rw [List.take_length, Bool.and_eq_true, List.all_eq_true]
  constructor
  · rintro ⟨h1, h2⟩
    refine cd_of hx ?_ fun y e => ?_
    · cases q : P.testBit x with
      | false => rfl
      | true => rw [decide_eq_true ((hP x).1 q)] at h1; cases h1
    · have := h2 _ ((ed_same hN hok x y).1 e)
      simp at this
      exact (hP y).2 this
  · intro h
    obtain ⟨h1, h2⟩ := cd_all h
    refine ⟨?_, fun p hp => ?_⟩
    · have : x ∉ A := fun q => by rw [(hP x).2 q] at h1; cases h1
      simp [this]
    · obtain ⟨pa, pb⟩ := p
      have hk := List.all_eq_true.1 hok _ hp
      unfold okE at hk
      simp only [Bool.and_eq_true, decide_eq_true_iff] at hk
      by_cases e : pa = (x : Int)
      · have e2 : EdB Ns n x pb.toNat := (ed_same hN hok x pb.toNat).2 (by
          show ((x : Int), ((pb.toNat : Nat) : Int)) ∈ E
          rw [← e, show ((pb.toNat : Nat) : Int) = pb by omega]
          exact hp)
        have := (hP _).1 (h2 _ e2)
        simp [this]
      · simp [e]
/-- What the page's Order answers. -/
def OqA (w : World) (n : Int) (E : List (Int × Int)) (Ns : List Nat) (e : Ending) (w' : World) : Prop := Below w.heap.size w w' ∧ ((rgE n E ≠ 0 ∧ e = .returned (.tuple #[.slice none 0 0, .slice none 0 0, .int .i64 (rgE n E)])) ∨ (rgE n E = 0 ∧ ∃ k : Nat, n = (k : Int) ∧
    (((∀ s, 0 < s → s ≤ k → ∀ x, x < k → ¬ WkG (EdE E) x s x) ∧ ∃ v, e = .returned (.tuple #[v, .slice none 0 0, .int .i64 0]) ∧ LBs w (nI (placeU Ns k)) v w') ∨
     ∃ s x1 Cs v, 0 < s ∧ s ≤ k ∧ x1 < k ∧ WkG (EdE E) x1 s x1 ∧ (∀ s', 0 < s' → s' < s → ∀ x, x < k → ¬ WkG (EdE E) x s' x) ∧ (∀ x', x' < x1 → ¬ WkG (EdE E) x' s x') ∧ CnR E k x1 s Cs ∧ e = .returned (.tuple #[.slice none 0 0, v, .int .i64 73]) ∧ LBs w (nI (bkC E k Cs s x1)) v w')))
set_option maxRecDepth 100000 in
set_option maxHeartbeats 8000000 in
theorem ord_no {w : World} (n : Int) (ea : Option Addr) (ec : Nat) (E : List (Int × Int)) (Ns : List Nat) (hE : PrsB w ea E) (hEl : E.length ≤ 140737488355328) (h0 : rgE n E ≠ 0) :
    Calls Tryz.prog 12 #[.int .i64 n, .slice ea E.length ec] w (OqA w n E Ns) := by
  have RG : Hid (Calls Tryz.prog 34 #[.int .i64 n, .slice ea E.length ec] w fun e w' => e = .returned (.int .i64 (rgE n E)) ∧ w' = w) := ranged_any n w ea ec E hE hEl
  have h1 : (rgE n E != 0) = true := by simpa using h0
  clear hE h0
  generalize hc : rgE n E = c at *
  have HC : Hid (rgE n E = c ∧ c ≠ 0) := ⟨hc, by simpa using h1⟩
  clear hc
  generalize E.length = el at *
  go_enter Tryz.func12, Tryz.ntmps12
  go_wp2_with (go_at_call 34; refine RG.out.mono ?_; rintro e w1 ⟨rfl, hz⟩; rw [hz]; clear hz w1)
  refine bodyPost_ret (v := .tuple #[.slice none 0 0, .slice none 0 0, .int .i64 c]) (by simp [results, Tryz.results12, go_sem]) rfl ?_
  exact ⟨Below.refl _ _, .inl ⟨by rw [HC.out.1]; exact HC.out.2, by rw [HC.out.1]⟩⟩
set_option maxRecDepth 100000 in
set_option maxHeartbeats 16000000 in
theorem ord_yes {w : World} (n : Int) (ea : Option Addr) (ec : Nat) (E : List (Int × Int)) (Ns : List Nat) (hE : PrsB w ea E) (hEl : E.length ≤ 140737488355328) (h0 : rgE n E = 0) (hN : ∀ k : Nat, n = (k : Int) → RelB E k Ns ∧ ((∀ s, 0 < s → s ≤ k → ∀ x, x < k → ¬ WkG (EdE E) x s x) → (placeU Ns k).length = k)) :
    Calls Tryz.prog 12 #[.int .i64 n, .slice ea E.length ec] w (OqA w n E Ns) := by
  have RG : Hid (Calls Tryz.prog 34 #[.int .i64 n, .slice ea E.length ec] w fun e w' => e = .returned (.int .i64 0) ∧ w' = w) := by
    have := ranged_any n w ea ec E hE hEl
    rwa [h0] at this
  obtain ⟨n, rfl, hn, hok, _⟩ := rg_zero h0
  have H0 : Hid (rgE (n : Int) E = 0) := h0
  have CY : Hid (Calls Tryz.prog 39 #[.int .i64 (n : Int), .slice ea E.length ec] w (CyA w E n)) := cycle_R hn ea ec E hE hEl hok
  have HN : Hid (RelB E n Ns ∧ ((∀ s, 0 < s → s ≤ n → ∀ x, x < n → ¬ WkG (EdE E) x s x) → (placeU Ns n).length = n)) := hN n rfl
  have HE : Hid (PrsB w ea E) := hE
  have HOA : Hid (E.all (okE n) = true) := hok
  clear hE h0 hok hN
  go_enter Tryz.func12, Tryz.ntmps12
  go_wp2_with (first
    | (go_at_call 34; refine RG.out.mono ?_; rintro e w1 ⟨rfl, hz⟩; rw [hz]; clear hz w1)
    | (go_at_call 39; refine CY.out.mono ?_))
  rintro e w1 ⟨b1, (⟨hnone, rfl⟩ | ⟨s, x1, Cs, v, q1, q2, q3, q4, q5, q6, q7, rfl, q8⟩)⟩
  · have HNO : Hid (∀ s, 0 < s → s ≤ n → ∀ x, x < n → ¬ WkG (EdE E) x s x) := hnone
    have hmk := make_boR n (by omega) w1
    have hpf := HN.out.2 hnone
    have HB1 : Hid (Below w.heap.size w w1) := b1
    have HPL : Hid ((placeU Ns n).length = n) := hpf
    have R1 : Hid (RoR w1 n (bsD [] n) (w1.alloc (.cells (madeCells #[.bool false] n) 4))) := by rw [bsD_nil]; exact RoR.start w1 n
    clear hnone b1 hpf RG CY
    go_wp2
    clear hmk
    go_loopg [10] n (fun gk v wr => ∃ (i : Nat), i ≤ n ∧ n - i ≤ gk ∧ RoR w1 n (bsD ((placeU Ns n).take i) n) wr ∧ IRo wr v (nI ((placeU Ns n).take i)) ∧ ∀ j, v.ownBlock = some j → w1.heap.size ≤ j)
    case atStart => exact ⟨0, Nat.zero_le _, by omega, by simpa using R1.out, RO.nil _, fun j hj => by simp [Value.ownBlock] at hj⟩
    case round =>
      clear R1
      obtain ⟨i, hi, hgk, hRo, hT, hown⟩ := hrel
      obtain ⟨va, vc, rfl, _⟩ := hT.len
      have hln : (nI ((placeU Ns n).take i)).length = i := by rw [nI_len, List.length_take, HPL.out]; omega
      rw [hln] at hT hown ⊢
      have HS : Hid (RoR w1 n (bsD ((placeU Ns n).take i) n) wr ∧ IRo wr (.slice va i vc) (nI ((placeU Ns n).take i)) ∧ ∀ j, (Value.slice va i vc).ownBlock = some j → w1.heap.size ≤ j) := ⟨hRo, hT, hown⟩
      clear hRo hT hown hln
      by_cases hlt : i < n
      · have ilt : (i : Int) < (n : Int) := by omega
        have hil : i < (placeU Ns n).length := by rw [HPL.out]; exact hlt
        have hsp : placeU Ns n = (placeU Ns n).take i ++ (placeU Ns n)[i] :: (placeU Ns n).drop (i + 1) := by simp
        obtain ⟨P', hP', hnx⟩ := place_at hsp
        obtain ⟨hx0, hcd, hle⟩ := nx_least hnx
        have HTK : Hid ((placeU Ns n).take (i + 1) = (placeU Ns n).take i ++ [(placeU Ns n)[i]]) := by show _ = _; rw [List.take_add_one, List.getElem?_eq_getElem hil]; rfl
        generalize (placeU Ns n)[i] = x0 at *
        have HMO : Hid (moR E ((placeU Ns n).take i) x0 E.length = true ∧ ∀ x', x' < x0 → moR E ((placeU Ns n).take i) x' E.length = false) := ⟨by rw [moR_full HN.out.1 HOA.out hx0 hP']; exact hcd, fun x' hx' => by rw [moR_full HN.out.1 HOA.out (by omega) hP']; exact hle x' hx'⟩
        clear hsp hP' hnx hcd hle hil
        generalize (placeU Ns n).take i = A at *
        obtain ⟨w2, rfl⟩ : ∃ w2 : World, w2 = wr := ⟨_, rfl⟩
        go_wp2
        go_loopw [10, 11] (fun v q wr => ∃ (x : Nat), x ≤ x0 ∧ v = .slice va i vc ∧ q = .int .i64 (x : Int) ∧ RoR w1 n (bsD A n) wr ∧ IRo wr (.slice va i vc) (nI A)) (fun _ q _ => n - (intOf q).toNat)
        case atStart => exact ⟨0, Nat.zero_le _, rfl, rfl, HS.out.1, HS.out.2.1⟩
        case round =>
          have HOW : Hid (∀ j, (Value.slice va i vc).ownBlock = some j → w1.heap.size ≤ j) := HS.out.2.2
          clear HS
          obtain ⟨x, hx, rfl, rfl, hRo, hT⟩ := hrel
          obtain ⟨w3, rfl⟩ : ∃ w3 : World, w3 = wr := ⟨_, rfl⟩
          have xn : x < n := by omega
          have xlt : (x : Int) < (n : Int) := by omega
          obtain ⟨cx, fx⟩ := boR_cell hRo.blk (show x < (bsD A n).length by rw [bsD_len]; exact xn)
          rw [bsD_get A xn] at cx
          have HD3 : Hid (∀ y, y < n → w3.cell? ⟨w1.heap.size, y, none⟩ = some (.bool (decide (y ∈ A)))) := fun y hy => by
            rw [(boR_cell hRo.blk (show y < (bsD A n).length by rw [bsD_len]; exact hy)).1, bsD_get A hy]
          have HBW : Hid (Below w.heap.size w w3) := HB1.out.trans (hRo.bel.mono HB1.out.size)
          have HS : Hid (RoR w1 n (bsD A n) w3 ∧ IRo w3 (.slice va i vc) (nI A)) := ⟨hRo, hT⟩
          have HM0 : Hid (moR E A x 0 = !decide (x ∈ A)) := by show _ = _; unfold moR; simp
          clear hRo hT
          generalize decide (x ∈ A) = dx at *
          go_wp2
          clear cx
          go_loop [12, 13] (fun m z => ∃ (k : Nat), k ≤ E.length ∧ z = .int .i64 (k : Int) ∧ m = .bool (moR E A x k)) (fun _ z => E.length - (intOf z).toNat)
          case atStart => exact ⟨0, Nat.zero_le _, rfl, by rw [HM0.out]⟩
          case round =>
            clear HM0
            obtain ⟨k, hk, rfl, rfl⟩ := hrel
            by_cases hke : k < E.length
            · have klt : (k : Int) < (E.length : Int) := by omega
              obtain ⟨eb, eo, hea, hbl, hce⟩ := HE.out (by intro q; rw [q] at hke; simp at hke)
              obtain ⟨cw0, cw1⟩ := hce k hke
              have hEi : E[k]? = some (E.getD k (0, 0)) := by rw [List.getD_eq_getElem?_getD, List.getElem?_eq_getElem hke]; rfl
              have hoe := List.all_eq_true.1 HOA.out _ (List.mem_of_getElem? hEi)
              generalize E.getD k (0, 0) = p at *
              obtain ⟨pa, pb⟩ := p
              unfold okE at hoe
              simp only [Bool.and_eq_true, decide_eq_true_iff] at hoe
              obtain ⟨a, rfl⟩ : ∃ a : Nat, pa = (a : Int) := ⟨pa.toNat, by omega⟩
              obtain ⟨b, rfl⟩ : ∃ b : Nat, pb = (b : Int) := ⟨pb.toNat, by omega⟩
              have hbn : b < n := by omega
              have hbi : (b : Int) < (n : Int) := by omega
              simp only at cw0 cw1
              have c0 := (HBW.out.cell (p := ⟨eb, eo + k * 2, none⟩) hbl).trans cw0
              have c1 := (HBW.out.cell (p := ⟨eb, eo + k * 2 + 1, none⟩) hbl).trans cw1
              have d0 := HD3.out b hbn
              have hma := moR_next (A := A) (x := x) hEi
              simp only [Int.toNat_natCast] at hma
              subst hea
              clear hce hoe cw0 cw1 hbl hEi
              generalize moR E A x k = mx at *
              cases mx with
              | false =>
                have HMN : Hid (moR E A x (k + 1) = false) := by show _ = _; rw [hma]; rfl
                clear hma
                go_wp2
                go_roundw
                case rel => exact ⟨k + 1, by omega, by go_num, by rw [HMN.out]⟩
                case measure => simp [intOf]; omega
              | true =>
                by_cases hax : a = x
                · obtain rfl : x = a := hax.symm
                  clear hax
                  by_cases hb : b ∈ A
                  · rw [decide_eq_true hb] at d0 hma
                    have HMN : Hid (moR E A x (k + 1) = true) := by show _ = _; rw [hma]; simp
                    clear hma hb
                    go_wp2
                    go_roundw
                    case rel => exact ⟨k + 1, by omega, by go_num, by rw [HMN.out]⟩
                    case measure => simp [intOf]; omega
                  · rw [decide_eq_false hb] at d0 hma
                    have HMN : Hid (moR E A x (k + 1) = false) := by show _ = _; rw [hma]; simp
                    clear hma hb
                    go_wp2
                    go_roundw
                    case rel => exact ⟨k + 1, by omega, by go_num, by rw [HMN.out]⟩
                    case measure => simp [intOf]; omega
                · have ax1 : ((a : Int) != (x : Int)) = true := by simp; omega
                  have ax2 : (a != x) = true := by simp; omega
                  have HMN : Hid (moR E A x (k + 1) = true) := by show _ = _; rw [hma, decide_eq_true (show (a : Int) ≠ (x : Int) by omega)]; rfl
                  clear hma hax
                  go_wp2
                  go_roundw
                  case rel => exact ⟨k + 1, by omega, by go_num, by rw [HMN.out]⟩
                  case measure => simp [intOf]; omega
            · have klt : ¬ (k : Int) < (E.length : Int) := by omega
              have hke2 : k = E.length := by omega
              cases hmx : moR E A x k with
              | false =>
                have HXX : Hid (x < x0) := by
                  rcases Nat.lt_or_ge x x0 with q | q
                  · exact q
                  · exfalso
                    have e : x = x0 := by omega
                    rw [hke2, e, HMO.out.1] at hmx
                    cases hmx
                clear hmx hke2
                go_wp2
                go_roundw
                case rel => exact ⟨x + 1, HXX.out, rfl, by go_num, HS.out.1, HS.out.2⟩
                case measure => simp [intOf]; omega
              | true =>
                have HXE : Hid (x = x0) := by
                  rcases Nat.lt_or_ge x x0 with q | q
                  · exfalso
                    rw [hke2, HMO.out.2 x q] at hmx
                    cases hmx
                  · show x = x0; omega
                obtain ⟨c2, c3⟩ := boR_cell HS.out.1.blk (show x < (bsD A n).length by rw [bsD_len]; exact xn)
                have H3 : Hid (RoR w1 n (bsD (A ++ [x]) n) (w3.setCell ⟨w1.heap.size, x, none⟩ (.bool true)) ∧ IRo (w3.setCell ⟨w1.heap.size, x, none⟩ (.bool true)) (.slice va i vc) (nI A)) := ⟨by
                  have := HS.out.1.put (z := x)
                  rwa [bsD_set] at this, HS.out.2.kepB (setB_kept HS.out.1.blk _)⟩
                have HNI : Hid (nI (A ++ [x]) = nI A ++ [(x : Int)]) := by show _ = _; unfold nI; rw [List.map_append]; rfl
                have HIC : Hid (∀ (j : Nat) (u : Value), (inCR (x : Int))[j]? = some u → ((w3.setCell ⟨w1.heap.size, x, none⟩ (.bool true)).alloc (.cells #[.int .i64 (x : Int)] 3)).cell? ⟨w3.heap.size, j, none⟩ = some u) := fun j u hu => by
                  have := inR_cell (w3.setCell ⟨w1.heap.size, x, none⟩ (.bool true)) (x : Int) 3 j u hu
                  rw [show (w3.setCell ⟨w1.heap.size, x, none⟩ (.bool true)).heap.size = w3.heap.size by simp] at this
                  exact this
                have LEN : Hid ((nI A).length ≤ 1000000000) := by
                  have := HS.out.2.len
                  obtain ⟨_, _, e, _⟩ := this
                  simp only [Value.slice.injEq] at e
                  show _ ≤ _
                  omega
                clear hmx hke2
                generalize (bsD A n).getD x false = ob at *
                generalize nI A = fl at *
                go_wp2_with (at_builtin; refine wpList_ro_append rkIntR rfl _ _ rfl (.slice va i vc) fl rfl (H3.out.2.later (below_alloc _ _)) w3.heap.size 1 (x : Int) rfl HIC.out LEN.out ?_)
                intro a5 n5 c5 w5 t5 g5
                have H5 : Hid (RoR w1 n (bsD ((placeU Ns n).take (i + 1)) n) w5 ∧ IRo w5 (.slice a5 n5 c5) (nI ((placeU Ns n).take (i + 1))) ∧ ∀ j, (Value.slice a5 n5 c5).ownBlock = some j → w1.heap.size ≤ j) := by
                  have hb := below_alloc (w3.setCell ⟨w1.heap.size, x, none⟩ (.bool true)) (.cells #[.int .i64 (x : Int)] 3)
                  rw [HTK.out, ← HXE.out, HNI.out]
                  exact ⟨(H3.out.1.any hb).grew (H3.out.2.later hb) HOW.out g5, t5, Grew.own g5 (Nat.le_trans H3.out.1.bel.size hb.size) HOW.out⟩
                clear t5 g5 c2 c3
                go_wp2
                go_roundg (gk - 1)
                case measure => omega
                case rel => exact ⟨i + 1, by omega, by omega, H5.out⟩
      · have ilt : ¬ (i : Int) < (n : Int) := by omega
        obtain rfl : n = i := by omega
        have HX : Hid (LBs w (nI (placeU Ns n)) (.slice va n vc) wr) := by
          have h2 := HS.out.2.1
          rw [show (placeU Ns n).take n = placeU Ns n from List.take_of_length_le (by rw [HPL.out]; exact Nat.le_refl _)] at h2
          exact ⟨h2.il, fun j hj => Nat.le_trans HB1.out.size (HS.out.2.2 j hj), HB1.out.trans (HS.out.1.bel.mono HB1.out.size)⟩
        clear HS
        go_wp2
        refine bodyPost_ret (v := .tuple #[.slice va n vc, .slice none 0 0, .int .i64 0]) (by simp [results, Tryz.results12, go_sem]) rfl ?_
        exact ⟨HX.out.bel, .inr ⟨H0.out, n, rfl, .inl ⟨HNO.out, _, rfl, HX.out⟩⟩⟩
  · obtain ⟨A, hA, hAl⟩ := bkC_cons E n Cs q1 x1
    have HX : Hid (∀ vv, vv = v → OqA w (n : Int) E Ns (.returned (.tuple #[.slice none 0 0, vv, .int .i64 73])) w1) := fun vv e => by
      subst e
      exact ⟨b1, .inr ⟨H0.out, n, rfl, .inr ⟨s, x1, Cs, vv, q1, q2, q3, q4, q5, q6, q7, rfl, q8⟩⟩⟩
    rw [hA] at q8
    obtain ⟨ua, uc, rfl, _⟩ := q8.cons
    have ali1 : (0 : Int) < (A.length : Int) + 1 := by omega
    clear q1 q2 q3 q4 q5 q6 q7 q8 hA hAl b1
    generalize A.length = al1 at *
    go_wp2
    refine bodyPost_ret (v := .tuple #[.slice none 0 0, .slice ua (al1 + 1) uc, .int .i64 73]) (by simp [results, Tryz.results12, go_sem]) rfl ?_
    exact HX.out _ rfl
theorem ord_any {w : World} (n : Int) (ea : Option Addr) (ec : Nat) (E : List (Int × Int)) (Ns : List Nat) (hE : PrsB w ea E) (hEl : E.length ≤ 140737488355328) (hN : rgE n E = 0 → ∀ k : Nat, n = (k : Int) → RelB E k Ns ∧ ((∀ s, 0 < s → s ≤ k → ∀ x, x < k → ¬ WkG (EdE E) x s x) → (placeU Ns k).length = k)) :
    Calls Tryz.prog 12 #[.int .i64 n, .slice ea E.length ec] w (OqA w n E Ns) := by
  by_cases h0 : rgE n E = 0
  · exact ord_yes n ea ec E Ns hE hEl h0 (hN h0)
  · exact ord_no n ea ec E Ns hE hEl h0
end Go.Proofs.YtcgghlaifmlpiaaGreatDoor
