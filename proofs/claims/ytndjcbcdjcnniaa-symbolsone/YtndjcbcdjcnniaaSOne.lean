import Derived.Test.YtndjcbcdjcnniaaSOne0
namespace Go.Proofs.Ytndjcbcdjcnniaa
set_option linter.unusedVariables false
open Go.RowKit Go.Maps

theorem same_row {w : World} {a1 a2 : Option Addr} {c1 c2 : Nat} {ss : List ByteArray} (h : StrRow w a1 ss) (h2 : StrRow w a2 ss) (hl : ss.length ≤ 64) : Calls Try.prog 27 #[.slice a1 ss.length c1, .slice a2 ss.length c2] w fun e w' => e = .returned (.bool true) ∧ Below w.heap.size w w' :=
  samestrs_eq a1 a2 _ _ c1 c2 ss w rfl rfl (by omega) h h2
theorem undo_back {B : Nat} {w : World} {p g b : Nat} {T N : Value} {D : DataW Unit} {ts ns ts' ns' : List ByteArray} (h : One B w p g b T N D ts' ns') (h1 : ts <+: ts') (h2 : ns <+: ns') :
    Calls Try.prog 29 #[.pointer (some ⟨p, 0, none⟩), .agg #[.int .i64 ts.length, .int .i64 ns.length]] w fun e w' => e = .returned (.int .i64 0) ∧ ∃ T' N' D', One B w' p g b T' N' D' ts ns ∧ Below B w w' := by
  refine (undo_ok h.bk h.fine ts.length ns.length h1.length_le h2.length_le).mono fun e w' ⟨he, T', N', D', hb, f⟩ => ⟨he, T', N', D', ?_, h.below f⟩
  have hf := h.fine.take ts.length ns.length
  rw [← List.prefix_iff_eq_take.1 h1, ← List.prefix_iff_eq_take.1 h2] at hb hf
  exact h.step f hb hf
set_option maxRecDepth 100000 in
set_option maxHeartbeats 8000000 in
theorem one_walk (a1 a2 : Option Addr) (c1 c2 M1 M2 : Nat) (l m : List OpV) (w : World) (hl' : l.length ≤ 140737488355328) (hm' : m.length ≤ 140737488355328) (h1 : M1 = l.length ∧ OpsAt w a1 l) (h2 : M2 = m.length ∧ OpsAt w a2 m) :
    Calls Try.prog 6 #[.slice a1 M1 c1, .slice a2 M2 c2] w fun e w' => e = .returned (.bool true) ∧ Below w.heap.size w w' := by
  obtain ⟨rfl, ho'⟩ := h1
  obtain ⟨rfl, hm2⟩ := h2
  have ho : Hid (OpsAt w a1 l) := ho'
  have hm : Hid (OpsAt w a2 m) := hm2
  have hl : Hid (l.length ≤ 140737488355328) := hl'
  have hml : Hid (m.length ≤ 140737488355328) := hm'
  obtain ⟨ts, ns, HQ⟩ : ∃ ts ns, Hid (playF ([], []) l = (ts, ns)) := ⟨_, _, rfl⟩
  clear ho' hm2 hl'
  have e0 : ((ts.length : Int) + ns.length != (ts.length : Int) + ns.length) = false := by simp
  have e1 : ((ts.length : Int) != ts.length) = false := by simp
  have e2 : ((ns.length : Int) != ns.length) = false := by simp
  go_enter Try.func6, Try.ntmps6
  go_wp2_with (first
    | (go_at_call 13; refine (works_any _).mono ?_; rintro e w1 ⟨rfl, hb1⟩)
    | (go_at_call 22; refine (new_any _).mono ?_; rintro e w2 ⟨p, g, b, D, rfl, hI, hp, hg, hb, hb2⟩; obtain ⟨O2, B2⟩ := One.new hb1 hb1.size hI hp hg hb hb2; clear hI hb2 hp hg hb hb1)
    | (go_at_call 23; refine (play_one O2 a1 c1 l hl.out (O2.ops B2 (Nat.le_refl _) ho.out) HQ.out).mono ?_; rintro e w3 ⟨rfl, T3, N3, D3, O3, f3⟩; have B3 := B2.trans (O2.below f3); clear f3 B2 O2)
    | (go_at_call 24; refine (terms_at O3.bk).mono ?_; rintro e w4 ⟨ta, tc, rfl, G4, b4⟩; have O4 := O3.later b4; have B4 := B3.trans (b4.mono O3.lo.2.2.2); clear b4 O3 B3)
    | (go_at_call 25; refine (nons_at O4.bk).mono ?_; rintro e w5 ⟨na, nc, rfl, H5, b5⟩; have O5 := O4.later b5; have G5 := G4.later b5; have B5 := B4.trans (b5.mono O4.lo.2.2.2); clear b5 O4 B4 G4)
    | (go_at_call 26; refine (mark_any O5.bk).mono ?_; rintro e w6 ⟨rfl, b6⟩; have S6 : L1 w.heap.size w p g b w6.heap.size (.slice ta ts.length tc) (.slice na ns.length nc) ts ns (w6.alloc (.cells #[.int .i64 ts.length, .int .i64 ns.length] 71)) T3 N3 D3 ts ns := ⟨(O5.later b6).later (below_alloc _ _), List.prefix_rfl, List.prefix_rfl, (G5.later b6).later (below_alloc _ _), (H5.later b6).later (below_alloc _ _), heap_alloc_new _ _, (B5.trans (b6.mono O5.lo.2.2.2)).trans ((below_alloc _ _).mono (Nat.le_trans O5.lo.2.2.2 b6.size))⟩; clear b6 O5 G5 H5 B5)
    | (go_at_call 8; refine (cn_fine ta na tc nc ts ns _ S6.o.fine S6.o.bk.tl S6.o.bk.nl S6.t.row.2.1 S6.n.row.2.1).mono ?_; rintro e w7 ⟨rfl, b7⟩; have S7 := S6.later b7; have tl := S7.o.bk.tl; have nl := S7.o.bk.nl; have z0 : w7.cell? ⟨w6.heap.size, 0, none⟩ = some (.int .i64 ts.length) := (cellq_any S7.hz).trans rfl; have z1 : w7.cell? ⟨w6.heap.size, 1, none⟩ = some (.int .i64 ns.length) := (cellq_any S7.hz).trans rfl; clear S6 b7))
  go_loopw [11] (fun i wr => ∃ (k : Nat) (T N : Value) (D : DataW Unit) (ts1 ns1 : List ByteArray), k ≤ m.length ∧ i = .int .i64 k ∧ L1 w.heap.size w p g b w6.heap.size (.slice ta ts.length tc) (.slice na ns.length nc) ts ns wr T N D ts1 ns1) (fun i _ => m.length - (intOf i).toNat)
  case atStart => exact ⟨0, T3, N3, D3, ts, ns, Nat.zero_le _, rfl, S7⟩
  case round =>
    clear S7 z0 z1
    obtain ⟨k, T, N, D, ts1, ns1, hk, rfl, S⟩ := hrel
    by_cases hlt : k < m.length
    · obtain ⟨hz, hr⟩ := (S.o.ops S.bel (Nat.le_refl _) hm.out).1
      obtain ⟨bb, off, rfl, hbl, hc⟩ := hr (by intro e; subst e; simp at hlt)
      obtain ⟨d0, d1, d2, d3, d4, d5⟩ := hc k hlt
      have hsz := hz (m.getD k .none) (by simp [List.getD, hlt])
      clear hc hr hz
      generalize m.getD k .none = o at *
      obtain ⟨kd, s, ok, on, ox, oy⟩ := o
      simp only at d0 d1 d2 d3 d4 d5 hsz
      by_cases k01 : kd = 0 ∨ kd = 1
      · have SA := S.later (below_alloc wr (.cells #[.int .i64 kd, .string s, .int .i64 ok, .int .i64 on, .int .i64 ox, .int .i64 oy] 74))
        have HO1 : OpsAp ((wr.alloc (.cells #[.int .i64 kd, .string s, .int .i64 ok, .int .i64 on, .int .i64 ox, .int .i64 oy] 74)).alloc (.cells #[.int .i64 kd, .string s, .int .i64 ok, .int .i64 on, .int .i64 ox, .int .i64 oy] 74)) g b T N (some ⟨wr.heap.size + 1, 0, none⟩) [⟨kd, s, ok, on, ox, oy⟩] := by
          have := ops_one SA.o.bk ⟨kd, s, ok, on, ox, oy⟩ hsz
          simpa using this
        have SB := SA.later (below_alloc _ (.cells #[.int .i64 kd, .string s, .int .i64 ok, .int .i64 on, .int .i64 ox, .int .i64 oy] 74))
        obtain ⟨ts2, ns2, HQ2⟩ : ∃ ts2 ns2, Hid (playF (ts1, ns1) [⟨kd, s, ok, on, ox, oy⟩] = (ts2, ns2)) := ⟨_, _, rfl⟩
        have HP : Hid (ts1 <+: ts2 ∧ ns1 <+: ns2) := by
          have := step_prefix (q := (ts1, ns1)) (o := ⟨kd, s, ok, on, ox, oy⟩) k01
          have e : stepF (ts1, ns1) ⟨kd, s, ok, on, ox, oy⟩ = (ts2, ns2) := HQ2.out
          rw [e] at this
          exact this
        have HL1 : Hid ([(⟨kd, s, ok, on, ox, oy⟩ : OpV)].length ≤ 140737488355328) := by show _ ≤ _; simp
        have e3 : ((ts2.length : Int) + ns2.length != (ts2.length : Int) + ns2.length) = false := by simp
        have q1 : ¬ ((ts2.length : Int) < ts.length) := by have := (S.pt.trans HP.out.1).length_le; omega
        have q2 : ¬ ((ns2.length : Int) < ns.length) := by have := (S.pn.trans HP.out.2).length_le; omega
        have q1d : decide (ts2.length < ts.length) = false := by simp; omega
        have q2d : decide (ns2.length < ns.length) = false := by simp; omega
        have HT : Hid (ts.length ≤ ts2.length ∧ ns.length ≤ ns2.length) := ⟨(S.pt.trans HP.out.1).length_le, (S.pn.trans HP.out.2).length_le⟩
        clear S SA
        rcases k01 with rfl | rfl
        all_goals
          go_wp2_with (first
            | (go_at_call 23; refine (play_one SB.o (some ⟨wr.heap.size + 1, 0, none⟩) 1 [_] HL1.out HO1 HQ2.out).mono ?_; rintro e w3 ⟨rfl, T3, N3, D3, O3, f3⟩; have S3 := SB.step O3 f3 HP.out.1 HP.out.2; have tl2 := O3.bk.tl; have nl2 := O3.bk.nl; clear f3 SB O3 HO1)
            | (go_at_call 24; refine (terms_at S3.o.bk).mono ?_; rintro e w4 ⟨xa, xc, rfl, X4, b4⟩; have S4 := S3.later b4; have hcx : ts.length ≤ xc := Nat.le_trans HT.out.1 X4.row.2.2; clear b4 S3)
            | (go_at_call 25; refine (nons_at S4.o.bk).mono ?_; rintro e w5 ⟨ya, yc, rfl, Y5, b5⟩; have S5 := S4.later b5; have X5 := X4.later b5; have hcy : ns.length ≤ yc := Nat.le_trans HT.out.2 Y5.row.2.2; clear b5 S4 X4)
            | (go_at_call 8; refine (cn_fine xa ya xc yc ts2 ns2 _ S5.o.fine tl2 nl2 X5.row.2.1 Y5.row.2.1).mono ?_; rintro e w8 ⟨rfl, b8⟩; have S8 := S5.later b8; have X8 := X5.later b8; have Y8 := Y5.later b8; clear S5 b8 X5 Y5)
            | (go_at_call 27; (with_reducible refine (same_row (a1 := xa) (a2 := ta) (ss := ts) (strRow_prefix X8.row.2.1 S8.pt) S8.t.row.2.1 tl).mono ?_); rintro e w9 ⟨rfl, b9⟩; have S9 := S8.later b9; have X9 := X8.later b9; have Y9 := Y8.later b9; clear S8 b9 X8 Y8)
            | (go_at_call 27; (with_reducible refine (same_row (a1 := ya) (a2 := na) (ss := ns) (strRow_prefix Y9.row.2.1 S9.pn) S9.n.row.2.1 nl).mono ?_); rintro e w10 ⟨rfl, b10⟩; have S10 := S9.later b10; have X10 := X9.later b10; clear S9 b10 X9 Y9))
          go_loopw [17] (fun i wi => ∃ j : Nat, j ≤ ts2.length ∧ i = .int .i64 j ∧ Below w10.heap.size w10 wi) (fun i _ => ts2.length - (intOf i).toNat)
          case atStart => exact ⟨0, Nat.zero_le _, rfl, Below.refl _ _⟩
          case round =>
            obtain ⟨j, hj, rfl, hB⟩ := hrel
            by_cases hjt : j < ts2.length
            · obtain ⟨xb, xo, rfl, hxl, hxc⟩ := X10.row.2.1 (by intro e; subst e; simp at hjt)
              have hcj := (hB.cell (p := ⟨xb, xo + j, none⟩) hxl).trans (hxc j hjt)
              have SI := S10.later hB
              have hsj : Hid ((ts2.getD j ByteArray.empty).size ≤ maxLen) := SI.o.fine.len.1 _ (by simp [List.getD, hjt])
              have HFj : Hid ((∃ q, findS ts2 ns2 (ts2.getD j ByteArray.empty) = some q ∧ q = ((1 : Int), (j : Int)) ∧ true = true) ∨ findS ts2 ns2 (ts2.getD j ByteArray.empty) = none ∧ (1 : Int) = 0 ∧ (j : Int) = 0 ∧ true = false) := .inl ⟨_, find_self SI.o.fine hjt, rfl, rfl⟩
              have e5 : ((j : Int) == j) = true := by simp
              have e6 : ((j : Int) != j) = false := by simp
              clear hxc
              generalize ts2.getD j ByteArray.empty = sj at *
              go_wp2_with (first
                | (go_at_call 28; refine (find_any SI.o.bk sj hsj.out 1 j true HFj).mono ?_; rintro e w11 ⟨rfl, b11⟩; have B11 := (hB.trans (b11.mono hB.size)).trans ((below_alloc w11 (.cells #[.int .i64 1, .int .i64 j] 61)).mono (Nat.le_trans hB.size b11.size)); clear b11 SI))
              go_roundw
              case rel => exact ⟨j + 1, by omega, by go_num, B11⟩
              case measure => simp [intOf]; omega
            · go_wp2
              go_roundw
              case rel => exact ⟨k + 1, T3, N3, D3, ts2, ns2, by omega, by go_num, S10.later hB⟩
              case measure => simp [intOf]; omega
      · have k0 : (kd != 0) = true := by simp; omega
        have k1 : (kd != 1) = true := by simp; omega
        go_wp2
        go_roundw
        case rel => exact ⟨k + 1, T, N, D, ts1, ns1, by omega, by go_num, S.later (below_alloc wr _)⟩
        case measure => simp [intOf]; omega
    · clear hk hm'
      obtain ⟨us, vs, HM⟩ : ∃ us vs, Hid (playF (ts, ns) m = (us, vs)) := ⟨_, _, rfl⟩
      have z0 : wr.cell? ⟨w6.heap.size, 0, none⟩ = some (.int .i64 ts.length) := (cellq_any S.hz).trans rfl
      have z1 : wr.cell? ⟨w6.heap.size, 1, none⟩ = some (.int .i64 ns.length) := (cellq_any S.hz).trans rfl
      have e3 : ((us.length : Int) == us.length) = true := by simp
      have e4 : ((vs.length : Int) == vs.length) = true := by simp
      go_wp2_with (first
        | (go_at_call 29; refine (undo_back S.o S.pt S.pn).mono ?_; rintro e w3 ⟨rfl, T3, N3, D3, O3, b3⟩; have B3 := S.bel.trans b3; clear b3 S)
        | (go_at_call 22; refine (new_any _).mono ?_; rintro e w4 ⟨p2, g2, b2, D2, rfl, hI, hp, hg, hb, hb4⟩; have P4 := Pr.new (q1 := (ts, ns)) O3 hI hp hg hb hb4; have B4 := B3.trans (hb4.mono O3.lo.2.2.2); clear hI hb4 hp hg hb O3 B3)
        | (go_at_call 23; (with_reducible refine (play_pr P4.swap a1 c1 l hl.out (P4.c.ops B4 (Nat.le_refl _) ho.out) HQ.out).mono ?_); rintro e w5 ⟨rfl, T5, N5, D5, P5, b5⟩; have B5 := B4.trans b5; clear b5 B4 P4)
        | (go_at_call 23; (with_reducible refine (play_pr P5.swap a2 c2 m hml.out (P5.c.ops B5 (Nat.le_refl _) hm.out) HM.out).mono ?_); rintro e w7 ⟨rfl, T7, N7, D7, P7, b7⟩; have B7 := B5.trans b7; clear b7 B5 P5)
        | (go_at_call 23; (with_reducible refine (play_pr P7.swap a2 c2 m hml.out (P7.c.ops B7 (Nat.le_refl _) hm.out) HM.out).mono ?_); rintro e w8 ⟨rfl, T8, N8, D8, P8, b8⟩; have B8 := B7.trans b8; have ul := P8.a.bk.tl; have vl := P8.a.bk.nl; clear b8 B7 P7)
        | (go_at_call 24; (with_reducible refine (terms_at P8.c.bk).mono ?_); rintro e w9 ⟨xa, xc, rfl, X9, b9⟩; have P9 := P8.later b9; have B9 := B8.trans (b9.mono P8.a.lo.2.2.2); clear b9 B8 P8)
        | (go_at_call 24; (with_reducible refine (terms_at P9.a.bk).mono ?_); rintro e w10 ⟨ya, yc, rfl, Y10, b10⟩; have X10 := X9.later b10; have P10 := P9.later b10; have B10 := B9.trans (b10.mono P9.a.lo.2.2.2); clear b10 B9 P9 X9)
        | (go_at_call 27; (with_reducible refine (same_row (a1 := xa) (a2 := ya) (ss := us) X10.row.2.1 Y10.row.2.1 ul).mono ?_); rintro e w11 ⟨rfl, b11⟩; have P11 := P10.later b11; have B11 := B10.trans (b11.mono P10.a.lo.2.2.2); clear b11 B10 P10 X10 Y10)
        | (go_at_call 25; (with_reducible refine (nons_at P11.c.bk).mono ?_); rintro e w12 ⟨xa2, xc2, rfl, X12, b12⟩; have P12 := P11.later b12; have B12 := B11.trans (b12.mono P11.a.lo.2.2.2); clear b12 B11 P11)
        | (go_at_call 25; (with_reducible refine (nons_at P12.a.bk).mono ?_); rintro e w13 ⟨ya2, yc2, rfl, Y13, b13⟩; have X13 := X12.later b13; have P13 := P12.later b13; have B13 := B12.trans (b13.mono P12.a.lo.2.2.2); clear b13 B12 P12 X12)
        | (go_at_call 27; (with_reducible refine (same_row (a1 := xa2) (a2 := ya2) (ss := vs) X13.row.2.1 Y13.row.2.1 vl).mono ?_); rintro e w14 ⟨rfl, b14⟩; have P14 := P13.later b14; have B14 := B13.trans (b14.mono P13.a.lo.2.2.2); clear b14 B13 P13 X13 Y13)
        | (go_at_call 26; (with_reducible refine (mark_any P14.c.bk).mono ?_); rintro e w15 ⟨rfl, b15⟩; have P15 := P14.later b15; have B15 := B14.trans (b15.mono P14.a.lo.2.2.2); clear b15 B14 P14)
        | (go_at_call 26; (with_reducible refine (mark_any P15.a.bk).mono ?_); rintro e w16 ⟨rfl, b16⟩; have B16 := B15.trans (b16.mono P15.a.lo.2.2.2); clear b16 B15 P15))
      go_ret
      exact ⟨rfl, B16⟩
end Go.Proofs.Ytndjcbcdjcnniaa
