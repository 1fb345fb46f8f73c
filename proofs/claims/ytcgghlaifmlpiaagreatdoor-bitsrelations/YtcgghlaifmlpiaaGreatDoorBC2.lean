import Derived.Test.YtcgghlaifmlpiaaGreatDoorBR9ToBC1
namespace Go.Proofs.YtcgghlaifmlpiaaGreatDoor
set_option linter.unusedVariables false
open Go.RowKit Go.Shelf

/-- A class under way, all else as it was. -/
structure CkR (w3 : World) (Rs : List (List Bool)) (x y : Nat) (v : Value) (wr : World) : Prop where
  t : IRo wr v (nI (csR Rs x y))
  own : ∀ j, v.ownBlock = some j → w3.heap.size ≤ j
  bel : Below w3.heap.size w3 wr
theorem CkR.app {w3 wr w5 : World} {Rs : List (List Bool)} {x y : Nat} {v v5 : Value} (h : CkR w3 Rs x y v wr) (hs : smR Rs x y = true) (t5 : IRo w5 v5 (nI (csR Rs x y) ++ [(y : Int)])) (g5 : Grew (wr.alloc (.cells #[.int .i64 (y : Int)] 3)) w5 v v5) : CkR w3 Rs x (y + 1) v5 w5 := by
  have hb := below_alloc wr (.cells #[.int .i64 (y : Int)] 3)
  refine ⟨?_, Grew.own g5 (Nat.le_trans h.bel.size hb.size) h.own, (h.bel.trans (hb.mono h.bel.size)).grown g5.grown (Nat.le_trans h.bel.size hb.size) h.own⟩
  rw [csR_next, if_pos hs]
  unfold nI at t5 ⊢
  rw [List.map_append]
  exact t5
theorem CkR.no {w3 wr : World} {Rs : List (List Bool)} {x y : Nat} {v : Value} (h : CkR w3 Rs x y v wr) (hs : smR Rs x y = false) : CkR w3 Rs x (y + 1) v wr := by
  refine ⟨?_, h.own, h.bel⟩
  rw [csR_next, hs]
  simpa using h.t
set_option maxRecDepth 100000 in
set_option maxHeartbeats 8000000 in
theorem cmp_no {w : World} (n : Int) (ea : Option Addr) (ec : Nat) (E : List (Int × Int)) (D : List (List Nat)) (hE : PrsB w ea E) (hEl : E.length ≤ 140737488355328) (h0 : rgE n E ≠ 0) :
    Calls Tryz.prog 10 #[.int .i64 n, .slice ea E.length ec] w (CqA w n E D) := by
  have RG : Hid (Calls Tryz.prog 34 #[.int .i64 n, .slice ea E.length ec] w fun e w' => e = .returned (.int .i64 (rgE n E)) ∧ w' = w) := ranged_any n w ea ec E hE hEl
  have h1 : (rgE n E != 0) = true := by simpa using h0
  clear hE h0
  generalize hc : rgE n E = c at *
  have HC : Hid (rgE n E = c ∧ c ≠ 0) := ⟨hc, by simpa using h1⟩
  clear hc
  generalize E.length = el at *
  go_enter Tryz.func10, Tryz.ntmps10
  go_wp2_with (go_at_call 34; refine RG.out.mono ?_; rintro e w1 ⟨rfl, hz⟩; rw [hz]; clear hz w1)
  refine bodyPost_ret (v := .tuple #[.slice none 0 0, .int .i64 c]) (by simp [results, Tryz.results10, go_sem]) rfl ?_
  exact ⟨Below.refl _ _, .inl ⟨by rw [HC.out.1]; exact HC.out.2, by rw [HC.out.1]⟩⟩
set_option maxRecDepth 100000 in
set_option maxHeartbeats 16000000 in
theorem cmp_yes {w : World} (n : Int) (ea : Option Addr) (ec : Nat) (E : List (Int × Int)) (D : List (List Nat)) (hE : PrsB w ea E) (hEl : E.length ≤ 140737488355328) (h0 : rgE n E = 0) (hD : ∀ (k : Nat) Rs, n = (k : Int) → RxR E k Rs → GdD Rs k D) :
    Calls Tryz.prog 10 #[.int .i64 n, .slice ea E.length ec] w (CqA w n E D) := by
  have RG : Hid (Calls Tryz.prog 34 #[.int .i64 n, .slice ea E.length ec] w fun e w' => e = .returned (.int .i64 0) ∧ w' = w) := by
    have := ranged_any n w ea ec E hE hEl
    rwa [h0] at this
  obtain ⟨n, rfl, hn, hok, _⟩ := rg_zero h0
  have H0 : Hid (rgE (n : Int) E = 0) := h0
  have RC : Hid (Calls Tryz.prog 35 #[.int .i64 (n : Int), .slice ea E.length ec] w fun e w' => e = .returned (.slice (some ⟨w.heap.size, 0, none⟩) n n) ∧ ∃ ks Rs, MxR w.heap.size n n w ks Rs w' ∧ RxR E n Rs) := reach_R hn ea ec E hE hEl hok
  have HD0 : Hid (∀ Rs, RxR E n Rs → GdD Rs n D) := fun Rs hR => hD n Rs rfl hR
  clear hE h0 hok hD
  generalize hel : E.length = el at *
  clear hel
  go_enter Tryz.func10, Tryz.ntmps10
  go_wp2_with (first
    | (go_at_call 34; refine RG.out.mono ?_; rintro e w1 ⟨rfl, hz⟩; rw [hz]; clear hz w1)
    | (go_at_call 35; refine RC.out.mono ?_; rintro e w1 ⟨rfl, ks, Rs, m1, r1⟩; have M1 : Hid (MxR w.heap.size n n w ks Rs w1 ∧ GdD Rs n D) := ⟨m1, HD0.out Rs r1⟩; have hmk := make_boR n (Nat.le_trans hn (of_decide_eq_true rfl)) w1; clear m1 r1))
  have R1 : Hid (RoR w1 n (bsD [] n) (w1.alloc (.cells (madeCells #[.bool false] n) 4))) := by rw [bsD_nil]; exact RoR.start w1 n
  clear RG RC hmk HD0
  have D1 : Hid (DoR w1.heap.size (fun j => nI (D.getD j [])) 0 (.slice none 0 0) (w1.alloc (.cells (madeCells #[.bool false] n) 4))) := ⟨⟨[], HL.nil _ _, rfl, fun j V hV => by simp at hV⟩, fun j hj => by simp [Value.ownBlock] at hj⟩
  go_loopw [9, 10] (fun v z wr => ∃ (i : Nat), i ≤ D.length ∧ z = .int .i64 ((n - (D.take i).flatten.length : Nat) : Int) ∧ RoR w1 n (bsD (D.take i).flatten n) wr ∧ DoR w1.heap.size (fun j => nI (D.getD j [])) i v wr) (fun _ z _ => (intOf z).toNat)
  case atStart => exact ⟨0, Nat.zero_le _, by simp, R1.out, D1.out⟩
  case round =>
    have HM : Hid (∀ wr, Below w1.heap.size w1 wr → MxR w.heap.size n n w ks Rs wr) := fun wr hb => M1.out.1.any hb
    have HG : Hid (GdD Rs n D ∧ D.length ≤ n) := ⟨M1.out.2, M1.out.2.len⟩
    clear M1 R1 D1
    obtain ⟨i, hi, rfl, hRo, hDo⟩ := hrel
    obtain ⟨va, vc, rfl⟩ := hDo.len
    by_cases hlt : i < D.length
    · obtain ⟨x0, hx0, hTe, hok0, hno0, hfl, hsum, hpos⟩ := HG.out.1.go hlt
      have HOK : Hid (okR Rs n (fun z => decide (z ∈ (D.take i).flatten)) x0 = true ∧ (∀ x', x' < x0 → okR Rs n (fun z => decide (z ∈ (D.take i).flatten)) x' = false)) := ⟨hok0, hno0⟩
      have HFL : Hid ((D.take (i + 1)).flatten = (D.take i).flatten ++ csR Rs x0 n ∧ D.getD i [] = csR Rs x0 n) := ⟨hfl, hTe⟩
      have HS : Hid (RoR w1 n (bsD (D.take i).flatten n) wr ∧ DoR w1.heap.size (fun j => nI (D.getD j [])) i (.slice va i vc) wr) := ⟨hRo, hDo⟩
      obtain ⟨lf, hlf⟩ : ∃ lf : Nat, n - (D.take i).flatten.length = lf := ⟨_, rfl⟩
      have HLF : Hid (lf = n - (D.take i).flatten.length ∧ (D.take i).flatten.length + (csR Rs x0 n).length ≤ n ∧ 0 < (csR Rs x0 n).length) := ⟨hlf.symm, hsum, hpos⟩
      have lfp : 0 < lf := by omega
      have lfpi : (0 : Int) < (lf : Int) := by omega
      rw [hlf]
      clear hok0 hno0 hfl hTe hRo hDo hlf hsum hpos
      generalize (D.take i).flatten = A at *
      go_wp2
      obtain ⟨w2, rfl⟩ : ∃ w2 : World, w2 = wr := ⟨_, rfl⟩
      go_loopw [9, 10, 11] (fun v z q wr => ∃ (x : Nat), x ≤ x0 ∧ v = .slice va i vc ∧ z = .int .i64 (lf : Int) ∧ q = .int .i64 (x : Int) ∧ RoR w1 n (bsD A n) wr ∧ DoR w1.heap.size (fun j => nI (D.getD j [])) i (.slice va i vc) wr) (fun _ _ q _ => n - (intOf q).toNat)
      case atStart => exact ⟨0, Nat.zero_le _, rfl, rfl, rfl, HS.out.1, HS.out.2⟩
      case round =>
        clear HS
        obtain ⟨x, hx, rfl, rfl, rfl, hRo, hDo⟩ := hrel
        obtain ⟨w3, rfl⟩ : ∃ w3 : World, w3 = wr := ⟨_, rfl⟩
        have xn : x < n := by omega
        have xlt : (x : Int) < (n : Int) := by omega
        obtain ⟨cx, _⟩ := boR_cell hRo.blk (show x < (bsD A n).length by rw [bsD_len]; exact xn)
        rw [bsD_get A xn] at cx
        have HS : Hid (RoR w1 n (bsD A n) w3 ∧ DoR w1.heap.size (fun j => nI (D.getD j [])) i (.slice va i vc) w3) := ⟨hRo, hDo⟩
        have HM3 : Hid (∀ y, y < n → ∀ wr, Below w3.heap.size w3 wr → ∃ kx ky, wr.cell? ⟨w1.heap.size, y, none⟩ = some (.bool (decide (y ∈ A))) ∧ wr.cell? ⟨w.heap.size, x, none⟩ = some (.slice (some ⟨kx, 0, none⟩) n n) ∧ wr.cell? ⟨w.heap.size, y, none⟩ = some (.slice (some ⟨ky, 0, none⟩) n n) ∧ wr.cell? ⟨kx, y, none⟩ = some (.bool (rcR Rs x y)) ∧ wr.cell? ⟨ky, x, none⟩ = some (.bool (rcR Rs y x))) := fun y hy wr hb => by
          have hM := HM.out wr (hRo.bel.trans (hb.mono hRo.bel.size))
          have hB := hRo.any hb
          obtain ⟨kx, R, _, _, hRe, hRl, ck, hkb⟩ := hM.at xn
          obtain ⟨ky, R', _, _, hRe', hRl', ck', hkb'⟩ := hM.at hy
          refine ⟨kx, ky, ?_, ck, ck', ?_, ?_⟩
          · rw [(boR_cell hB.blk (show y < (bsD A n).length by rw [bsD_len]; exact hy)).1, bsD_get A hy]
          · rw [(boR_cell hkb (by omega)).1, hRe]; rfl
          · rw [(boR_cell hkb' (by omega)).1, hRe']; rfl
        have HMA : Hid (maR Rs (fun z => decide (z ∈ A)) x 0 = !decide (x ∈ A)) := by show _ = _; unfold maR; simp
        clear hRo hDo
        generalize decide (x ∈ A) = dx at *
        go_wp2
        go_loopw [12, 13, 14] (fun m c z wr => ∃ (y : Nat), y ≤ n ∧ z = .int .i64 (y : Int) ∧ m = .bool (maR Rs (fun z => decide (z ∈ A)) x y) ∧ CkR w3 Rs x y c wr) (fun _ _ z _ => n - (intOf z).toNat)
        case atStart => exact ⟨0, Nat.zero_le _, rfl, by rw [HMA.out], RO.nil _, (fun j hj => by simp [Value.ownBlock] at hj), Below.refl _ _⟩
        case round =>
          clear HMA cx
          obtain ⟨y, hy, rfl, rfl, hC⟩ := hrel
          obtain ⟨ca, cc, rfl, _⟩ := hC.t.len
          have HC : Hid (CkR w3 Rs x y (.slice ca (nI (csR Rs x y)).length cc) wr) := hC
          by_cases hyn : y < n
          · have ylt : (y : Int) < (n : Int) := by omega
            obtain ⟨kx, ky, d0, d1, d2, d3, d4⟩ := HM3.out y hyn wr hC.bel
            have hma := maR_next Rs (fun z => decide (z ∈ A)) x y
            have LEN : Hid ((nI (csR Rs x y)).length ≤ 1000000000) := by
              have := csR_len Rs x y
              show _ ≤ _
              rw [nI_len]
              omega
            have HSM : Hid (∀ b, smR Rs x y = b → smR Rs x y = b) := fun _ q => q
            have hsd : smR Rs x y = (decide (y = x) || (rcR Rs x y && rcR Rs y x)) := rfl
            clear hC
            generalize hfl : nI (csR Rs x y) = fl at *
            obtain ⟨fn, hfn⟩ : ∃ fn, fl.length = fn := ⟨_, rfl⟩
            rw [hfn] at HC ⊢
            have HFL2 : Hid (nI (csR Rs x y) = fl) := hfl
            have HT : Hid (IRo wr (.slice ca fn cc) fl) := by
              have := HC.out.t
              rwa [hfl] at this
            clear hfl hfn
            generalize hmx : maR Rs (fun z => decide (z ∈ A)) x y = mx at *
            clear hmx
            by_cases hyx : y = x
            · obtain rfl : x = y := hyx.symm
              have hs : smR Rs x x = true := by rw [hsd]; rw [decide_eq_true rfl]; rfl
              rw [hs] at hma
              have HMN : Hid (maR Rs (fun z => decide (z ∈ A)) x (x + 1) = mx) := by show _ = _; rw [hma]; simp
              have HSS : Hid (smR Rs x x = true) := hs
              clear hma hsd hs
              go_wp2_with (at_builtin; refine wpList_ro_append rkIntR rfl _ _ rfl (.slice ca fn cc) fl rfl (HT.out.later (below_alloc _ _)) wr.heap.size 1 (x : Int) rfl (inR_cell wr (x : Int) _) LEN.out ?_)
              intro a5 n5 c5 w5 t5 g5
              have H5 : Hid (CkR w3 Rs x (x + 1) (.slice a5 n5 c5) w5) := HC.out.app HSS.out (by rw [HFL2.out]; exact t5) g5
              clear t5 g5
              go_wp2
              go_roundw
              case rel => exact ⟨x + 1, by omega, by go_num, by rw [HMN.out], H5.out⟩
              case measure => simp [intOf]; omega
            · have hyb : ((y : Int) == (x : Int)) = false := by rw [beq_eq_false_iff_ne]; omega
              have hyb2 : (y == x) = false := by rw [beq_eq_false_iff_ne]; exact hyx
              cases h1 : rcR Rs x y with
              | true =>
                rw [h1] at d3
                cases h2 : rcR Rs y x with
                | true =>
                  rw [h2] at d4
                  have hs : smR Rs x y = true := by rw [hsd]; rw [h1, h2]; simp
                  rw [hs] at hma
                  have HMN : Hid (maR Rs (fun z => decide (z ∈ A)) x (y + 1) = mx) := by show _ = _; rw [hma]; simp
                  have HSS : Hid (smR Rs x y = true) := hs
                  clear hma hsd hs
                  go_wp2_with (at_builtin; refine wpList_ro_append rkIntR rfl _ _ rfl (.slice ca fn cc) fl rfl (HT.out.later (below_alloc _ _)) wr.heap.size 1 (y : Int) rfl (inR_cell wr (y : Int) _) LEN.out ?_)
                  intro a5 n5 c5 w5 t5 g5
                  have H5 : Hid (CkR w3 Rs x (y + 1) (.slice a5 n5 c5) w5) := HC.out.app HSS.out (by rw [HFL2.out]; exact t5) g5
                  clear t5 g5
                  go_wp2
                  go_roundw
                  case rel => exact ⟨y + 1, by omega, by go_num, by rw [HMN.out], H5.out⟩
                  case measure => simp [intOf]; omega
                | false =>
                  rw [h2] at d4
                  by_cases hd : y ∈ A
                  · rw [decide_eq_true hd] at d0
                    have hs : smR Rs x y = false := by rw [hsd]; rw [h1, h2, decide_eq_false hyx]; rfl
                    rw [hs] at hma
                    have HMN : Hid (maR Rs (fun z => decide (z ∈ A)) x (y + 1) = mx) := by show _ = _; rw [hma]; rw [h1, decide_eq_true hd]; simp
                    have H5 : Hid (CkR w3 Rs x (y + 1) (.slice ca fn cc) wr) := HC.out.no hs
                    clear hma hsd hs
                    go_wp2
                    go_roundw
                    case rel => exact ⟨y + 1, by omega, by go_num, by rw [HMN.out], H5.out⟩
                    case measure => simp [intOf]; omega
                  · rw [decide_eq_false hd] at d0
                    have hs : smR Rs x y = false := by rw [hsd]; rw [h1, h2, decide_eq_false hyx]; rfl
                    rw [hs] at hma
                    have HMN : Hid (maR Rs (fun z => decide (z ∈ A)) x (y + 1) = false) := by show _ = _; rw [hma]; rw [h1, decide_eq_false hd]; simp
                    have H5 : Hid (CkR w3 Rs x (y + 1) (.slice ca fn cc) wr) := HC.out.no hs
                    clear hma hsd hs
                    go_wp2
                    go_roundw
                    case rel => exact ⟨y + 1, by omega, by go_num, by rw [HMN.out], H5.out⟩
                    case measure => simp [intOf]; omega
              | false =>
                rw [h1] at d3
                have hs : smR Rs x y = false := by rw [hsd]; rw [h1, decide_eq_false hyx]; rfl
                rw [hs] at hma
                have HMN : Hid (maR Rs (fun z => decide (z ∈ A)) x (y + 1) = mx) := by show _ = _; rw [hma]; rw [h1]; simp
                have H5 : Hid (CkR w3 Rs x (y + 1) (.slice ca fn cc) wr) := HC.out.no hs
                clear hma hsd hs
                go_wp2
                go_roundw
                case rel => exact ⟨y + 1, by omega, by go_num, by rw [HMN.out], H5.out⟩
                case measure => simp [intOf]; omega
          · have ylt : ¬ (y : Int) < (n : Int) := by omega
            obtain rfl : n = y := by omega
            clear hC
            have hpl : 0 < (csR Rs x n).length := List.length_pos_iff.2 (List.ne_nil_of_mem (csR_self Rs xn))
            have hln : (csR Rs x n).length ≤ n := csR_len Rs x n
            obtain ⟨cb, cc', hce, _, hcell⟩ := RO.cell (f := inCR) (fun _ => rfl) HC.out.t (i := 0) (by rw [nI_len]; exact hpl)
            simp only [Value.slice.injEq, true_and] at hce
            obtain ⟨rfl, rfl⟩ := hce
            have c0 : wr.cell? ⟨cb, 0, none⟩ = some (.int .i64 ((csR Rs x n).getD 0 0 : Int)) := by
              have := hcell 0 (by decide)
              rw [this]
              simp [inCR, nI, List.getD, hpl]
            have RD : Hid (RoR w1 n (bsD A n) wr ∧ DoR w1.heap.size (fun j => nI (D.getD j [])) i (.slice va i vc) wr) := ⟨HS.out.1.any HC.out.bel, HS.out.2.any HC.out.bel⟩
            have HOX : Hid (okR Rs n (fun z => decide (z ∈ A)) x = (maR Rs (fun z => decide (z ∈ A)) x n && decide ((csR Rs x n).getD 0 0 = x))) := rfl
            have HCT : Hid (IRo wr (.slice (some ⟨cb, 0, none⟩) (nI (csR Rs x n)).length cc) (nI (csR Rs x n))) := HC.out.t
            have HTL : Hid ((nI (csR Rs x n)).length = (csR Rs x n).length) := nI_len _
            rw [HTL.out] at HCT ⊢
            clear hcell HC HS HM3
            generalize maR Rs (fun z => decide (z ∈ A)) x n = mx at *
            cases mx with
            | false =>
              have HXX : Hid (x < x0) := by
                rcases Nat.lt_or_ge x x0 with q | q
                · exact q
                · exfalso
                  have e : x = x0 := by omega
                  have h1 := HOX.out
                  rw [e, HOK.out.1] at h1
                  simp at h1
              clear HOX
              generalize (csR Rs x n).length = tn at *
              go_wp2
              go_roundw
              case rel => exact ⟨x + 1, HXX.out, rfl, rfl, by go_num, RD.out.1, RD.out.2⟩
              case measure => simp [intOf]; omega
            | true =>
              by_cases hh : (csR Rs x n).getD 0 0 = x
              · have HXE : Hid (x = x0) := by
                  rcases Nat.lt_or_ge x x0 with q | q
                  · exfalso
                    have h1 := HOX.out
                    rw [HOK.out.2 x q, decide_eq_true hh] at h1
                    simp at h1
                  · show x = x0; omega
                rw [hh] at c0
                have HTT : Hid (∀ t ∈ csR Rs x n, t < n) := fun t ht => csR_lt ht
                have HL4 : Hid (lf = n - A.length ∧ A.length + (csR Rs x n).length ≤ n) := ⟨HLF.out.1, by rw [HXE.out]; exact HLF.out.2.1⟩
                have HF4 : Hid ((D.take (i + 1)).flatten = A ++ csR Rs x n ∧ nI (D.getD i []) = nI (csR Rs x n)) := ⟨by rw [HXE.out]; exact HFL.out.1, by rw [HXE.out, HFL.out.2]⟩
                have tlf : (csR Rs x n).length ≤ lf := by have := HL4.out; omega
                clear HOX hh HOK HLF HFL
                generalize csR Rs x n = T at *
                go_wp2
                obtain ⟨w4, rfl⟩ : ∃ w4 : World, w4 = wr := ⟨_, rfl⟩
                go_loopw [10, 16] (fun l z wr => ∃ (q : Nat), q ≤ T.length ∧ l = .int .i64 ((lf - q : Nat) : Int) ∧ z = .int .i64 (q : Int) ∧ RoR w1 n (bsD (A ++ T.take q) n) wr ∧ IRo wr (.slice (some ⟨cb, 0, none⟩) T.length cc) (nI T) ∧ DoR w1.heap.size (fun j => nI (D.getD j [])) i (.slice va i vc) wr) (fun _ z _ => T.length - (intOf z).toNat)
                case atStart => exact ⟨0, Nat.zero_le _, rfl, rfl, by simpa using RD.out.1, HCT.out, RD.out.2⟩
                case round =>
                  clear RD HCT c0
                  obtain ⟨q, hq, rfl, rfl, hRo, hT, hDo⟩ := hrel
                  by_cases hqt : q < T.length
                  · have qlt : (q : Int) < (T.length : Int) := by omega
                    obtain ⟨cb2, cc2, hce, _, hcell⟩ := RO.cell (f := inCR) (fun _ => rfl) hT (i := q) (by rw [nI_len]; exact hqt)
                    have c1 : wr.cell? ⟨cb, q, none⟩ = some (.int .i64 (T.getD q 0 : Int)) := by
                      simp only [Value.slice.injEq, Option.some.injEq, Addr.mk.injEq, and_true] at hce
                      have := hcell 0 (by decide)
                      rw [hce.1.symm] at this
                      rw [Nat.mul_one, Nat.add_zero] at this
                      rw [this]
                      simp [inCR, nI, List.getD, hqt]
                    have htn : T.getD q 0 < n := HTT.out _ (by rw [List.getD_eq_getElem?_getD, List.getElem?_eq_getElem hqt]; exact List.getElem_mem hqt)
                    have htk : T.take (q + 1) = T.take q ++ [T.getD q 0] := by rw [List.take_add_one, List.getElem?_eq_getElem hqt, List.getD_eq_getElem?_getD, List.getElem?_eq_getElem hqt]; rfl
                    generalize T.getD q 0 = t at *
                    obtain ⟨d1, d2⟩ := boR_cell hRo.blk (show t < (bsD (A ++ T.take q) n).length by rw [bsD_len]; exact htn)
                    have tlt : (t : Int) < (n : Int) := by omega
                    have HP : Hid (RoR w1 n (bsD (A ++ T.take (q + 1)) n) (wr.setCell ⟨w1.heap.size, t, none⟩ (.bool true)) ∧ IRo (wr.setCell ⟨w1.heap.size, t, none⟩ (.bool true)) (.slice (some ⟨cb, 0, none⟩) T.length cc) (nI T) ∧ DoR w1.heap.size (fun j => nI (D.getD j [])) i (.slice va i vc) (wr.setCell ⟨w1.heap.size, t, none⟩ (.bool true))) := ⟨by
                      have := hRo.put (z := t)
                      rw [bsD_set, List.append_assoc, ← htk] at this
                      exact this, hT.kepB (setB_kept hRo.blk _), hDo.kepB (setB_kept hRo.blk _)⟩
                    have ew : ((lf - q : Nat) : Int) - 1 = ((lf - (q + 1) : Nat) : Int) := by omega
                    have ew2 : IntKind.i64.wrap (((lf - q : Nat) : Int) - 1) = ((lf - (q + 1) : Nat) : Int) := by rw [ew, IntKind.wrap_i64]; have := HL4.out.1; omega
                    clear hRo hT hDo hce hcell htk htn ew
                    generalize (bsD (A ++ T.take q) n).getD t false = ov at *
                    generalize hlq : ((lf - q : Nat) : Int) = lq at *
                    have HLQ : Hid (IntKind.i64.wrap (lq - 1) = ((lf - (q + 1) : Nat) : Int)) := ew2
                    clear hlq
                    go_wp2
                    go_roundw
                    case rel => exact ⟨q + 1, by omega, by first | rfl | (rw [HLQ.out]) | simp [HLQ.out], by go_num, HP.out.1, HP.out.2.1, HP.out.2.2⟩
                    case measure => simp [intOf]; omega
                  · have qlt : ¬ (q : Int) < (T.length : Int) := by omega
                    obtain rfl : q = T.length := by omega
                    obtain ⟨Vs, v1, v2, v3⟩ := hDo.hl
                    rw [List.take_length, ← HF4.out.1] at hRo
                    have HV : Hid (HL 46 wr (.slice va i vc) Vs ∧ Vs.length = i ∧ (∀ (j : Nat) (V : Value), Vs[j]? = some V → IL wr V (nI (D.getD j []))) ∧ Vs.length ≤ 5864062014720 ∧ RoR w1 n (bsD (D.take (i + 1)).flatten n) wr ∧ (∀ j, (Value.slice va i vc).ownBlock = some j → w1.heap.size ≤ j) ∧ IL wr (.slice (some ⟨cb, 0, none⟩) T.length cc) (nI (D.getD i []))) := ⟨v1, v2, v3, (by have := HG.out.2; omega), hRo, hDo.own, by rw [HF4.out.2]; exact hT.il⟩
                    have HLZ : Hid (((lf - T.length : Nat) : Int) = ((n - (D.take (i + 1)).flatten.length : Nat) : Int) ∧ 0 < T.length ∧ T.length ≤ lf) := ⟨by rw [HF4.out.1, List.length_append, HL4.out.1]; omega, hpl, tlf⟩
                    clear v1 v2 v3 hRo hT hDo
                    generalize hlq : ((lf - T.length : Nat) : Int) = lq at *
                    generalize htl : T.length = tl at *
                    have HQ : Hid (((lf - tl : Nat) : Int) = lq) := hlq
                    clear hlq htl
                    go_wp2_with (at_builtin; refine wpList_hl_append Tryz.underlying24 infoLQ rfl _ _ rfl (.slice va i vc) Vs rfl (HV.out.1.later (below_alloc _ _)) wr.heap.size 1 (.slice (some ⟨cb, 0, none⟩) tl cc) rfl (cell_newI wr _ _) rfl HV.out.2.2.2.1 ?_; intro v5 w5 hl5 hg5; obtain ⟨a5, m5, c5, rfl⟩ := hl5.slice3; have G5 : Hid (DoR w1.heap.size (fun j => nI (D.getD j [])) (i + 1) (.slice a5 m5 c5) w5 ∧ RoR w1 n (bsD (D.take (i + 1)).flatten n) w5) := dor_stepB HV.out.1 HV.out.2.1 HV.out.2.2.1 HV.out.2.2.2.2.2.1 HV.out.2.2.2.2.2.2 HV.out.2.2.2.2.1 hl5 hg5; clear hl5 hg5)
                    go_roundw
                    case rel => exact ⟨i + 1, by omega, by rw [HLZ.out.1], G5.out.2, G5.out.1⟩
                    case measure => have := HLZ.out; have := HQ.out; simp [intOf]; omega
              · have HXX : Hid (x < x0) := by
                  rcases Nat.lt_or_ge x x0 with q | q
                  · exact q
                  · exfalso
                    have e : x = x0 := by omega
                    have h1 := HOX.out
                    rw [decide_eq_false hh, e, HOK.out.1] at h1
                    simp at h1
                clear HOX
                generalize (csR Rs x n).length = tn at *
                generalize (csR Rs x n).getD 0 0 = hd at *
                have hdb : ((hd : Int) != (x : Int)) = true := by simp; omega
                have hdb2 : (hd != x) = true := by simp; omega
                clear hh
                go_wp2
                go_roundw
                case rel => exact ⟨x + 1, HXX.out, rfl, rfl, by go_num, RD.out.1, RD.out.2⟩
                case measure => simp [intOf]; omega
    · have hie : i = D.length := by omega
      have HX : Hid (LrwB wr va (D.map nI) ∧ Below w.heap.size w wr) := by
        have h1 := hDo
        rw [hie] at h1
        have h2 := (show DoR w1.heap.size (fun j => nI (D.getD j [])) D.length (.slice va D.length vc) wr from by rw [hie] at hDo; exact hDo).fin
        rw [mapD_range] at h2
        have hB := (HM.out w1 (Below.refl _ _)).bel
        exact ⟨h2, hB.trans (hRo.bel.mono hB.size)⟩
      have lf0 : n - (D.take i).flatten.length = 0 := by rw [hie, List.take_length, HG.out.1.total]; omega
      have HIE : Hid (i = D.length) := hie
      rw [lf0]
      clear hRo hDo hie lf0
      go_wp2
      refine bodyPost_ret (v := .tuple #[.slice va i vc, .int .i64 0]) (by simp [results, Tryz.results10, go_sem]) rfl ?_
      exact ⟨HX.out.2, .inr ⟨H0.out, va, vc, by rw [HIE.out], HX.out.1⟩⟩
theorem cmp_any {w : World} (n : Int) (ea : Option Addr) (ec : Nat) (E : List (Int × Int)) (D : List (List Nat)) (hE : PrsB w ea E) (hEl : E.length ≤ 140737488355328) (hD : rgE n E = 0 → ∀ (k : Nat) Rs, n = (k : Int) → RxR E k Rs → GdD Rs k D) :
    Calls Tryz.prog 10 #[.int .i64 n, .slice ea E.length ec] w (CqA w n E D) := by
  by_cases h0 : rgE n E = 0
  · exact cmp_yes n ea ec E D hE hEl h0 (hD h0)
  · exact cmp_no n ea ec E D hE hEl h0
end Go.Proofs.YtcgghlaifmlpiaaGreatDoor
