import Derived.Test.YtndjcbcdjcnniaaSCheckP
namespace Go.Proofs.Ytndjcbcdjcnniaa
set_option linter.unusedVariables false
open Go.RowKit Go.Maps

set_option maxRecDepth 100000 in
set_option maxHeartbeats 8000000 in
theorem refcheck_in (a1 a2 : Option Addr) (c1 c2 : Nat) (ts ns : List ByteArray) (w : World) (k1 : ¬ 64 < ts.length) (k2 : ¬ 64 < ns.length) (hz1 : ∀ s ∈ ts, s.size ≤ maxLen) (hz2 : ∀ s ∈ ns, s.size ≤ maxLen) (hr1 : StrRow w a1 ts) (hr2 : StrRow w a2 ns) :
    Calls Try.prog 10 #[.slice a1 ts.length c1, .slice a2 ns.length c2] w fun e w' => ∃ er at_, e = .returned (.tuple #[.int .i64 er, .int .i64 at_]) ∧ er = (chk (kinds ts ns) []).1 ∧ at_ = (chk (kinds ts ns) []).2 ∧ Below w.heap.size w w' := by
  have k1' : ¬ (ts.length : Int) > 64 := by omega
  have k2' : ¬ (ns.length : Int) > 64 := by omega
  go_enter Try.func10, Try.ntmps10
  go_wp2
  go_loopw [6, 7] (fun al i wr => ∃ (k : Nat) (sn : List ByteArray), k ≤ ts.length + ns.length ∧ i = .int .i64 k ∧ GS wr al sn ∧ (∀ j, al.ownBlock = some j → w.heap.size ≤ j) ∧ Below w.heap.size w wr ∧ Hid (chk ((kinds ts ns).drop k) sn = chk (kinds ts ns) []) ∧ Hid (sn.length = k)) (fun _ i _ => ts.length + ns.length - (intOf i).toNat)
  case atStart => exact ⟨0, [], Nat.zero_le _, rfl, GS.nil _, fun j hj => by simp [Value.ownBlock] at hj, Below.refl _ _, rfl, rfl⟩
  case round =>
    obtain ⟨k, sn, hk, rfl, hgs, hfresh, hb, HF, HN⟩ := hrel
    obtain ⟨a6, c6, rfl⟩ := gs_len hgs
    have hml : sn.length ≤ 140737488355328 := by have := HN.out; omega
    have hle : sn.length ≤ 1000000 := by have := HN.out; omega
    by_cases hlt2 : k < ts.length + ns.length
    · have hki : (k : Int) < (ts.length : Int) + (ns.length : Int) := by omega
      by_cases hlt : k < ts.length
      · have HD : Hid ((kinds ts ns).drop k = (true, ts.getD k ByteArray.empty) :: (kinds ts ns).drop (k + 1)) := kinds_term hlt
        have hkt : (k : Int) < (ts.length : Int) := by omega
        obtain ⟨q, off, rfl, hq, hc⟩ := hr1 (by intro h; subst h; simp at hlt hlt2; try omega)
        have h1 : wr.cell? ⟨q, off + k, none⟩ = some (.string (ts.getD k ByteArray.empty)) := (hb.cell (p := ⟨q, off + k, none⟩) hq).trans (hc k (by omega))
        have hs1 : (ts.getD k ByteArray.empty).size ≤ maxLen := hz1 _ (by simp [List.getD, show k < ts.length by omega])
        clear hc hr1 hr2 hz1 hz2
        generalize ts.getD k ByteArray.empty = s at *
        have hs2 : s.size ≤ 9223372036854775807 := by unfold maxLen at hs1; omega
        by_cases hw : wordS s = true
        · have HK : Hid (okS true s = true) := by unfold Hid okS termS; simp [hw]
          by_cases hin : inB sn s = true
          · have HE : Hid (chk (kinds ts ns) [] = ((6 : Int), (sn.length : Int))) := by
              unfold Hid
              rw [← HF.out, HD.out]
              simp [chk, HK.out, hin]
            have hge : inS sn s ≥ 0 := inS_in hin
            go_wp2_with (first | (go_at_call 39; refine (refword_any s _ hs2).mono ?_; rintro e w' ⟨rfl, rfl⟩) | (go_at_call 40; refine (refquoted_any s _ hs2).mono ?_; rintro e w' ⟨rfl, rfl⟩) | (go_at_call 41; refine (in_gs hgs s hml).mono ?_; rintro e w' ⟨rfl, rfl⟩))
            go_returns
            exact ⟨_, _, rfl, by rw [HE.out], by rw [HE.out, HN.out], hb⟩
          · have hnin : inB sn s = false := by simpa using hin
            have HE : Hid (chk ((kinds ts ns).drop (k + 1)) (sn ++ [s]) = chk (kinds ts ns) []) := by
              unfold Hid
              rw [← HF.out, HD.out]
              simp [chk, HK.out, hnin]
            have hno : inS sn s = -1 := inS_out hnin
            have hnA : GS (wr.alloc (.cells #[.string s] 9)) (.slice a6 sn.length c6) sn := hgs.later (below_alloc wr _)
            have hy : (wr.alloc (.cells #[.string s] 9)).cell? ⟨wr.heap.size, 0, none⟩ = some (.string s) := by simp
            go_wp2_with (first | (go_at_call 39; refine (refword_any s _ hs2).mono ?_; rintro e w' ⟨rfl, rfl⟩) | (go_at_call 40; refine (refquoted_any s _ hs2).mono ?_; rintro e w' ⟨rfl, rfl⟩) | (go_at_call 41; refine (in_gs hgs s hml).mono ?_; rintro e w' ⟨rfl, rfl⟩) | (at_builtin; refine wpList_gs_append rfl _ _ rfl (.slice a6 sn.length c6) sn rfl hnA _ _ s rfl hy hle ?_; intro a4 n4 c4 w4 ho4 hg4; obtain rfl := gs_cnt ho4))
            obtain ⟨r1, r2⟩ := grew_below (hb.alloc hb.size _) hfresh hg4
            go_roundw
            case rel => exact ⟨k + 1, sn ++ [s], by omega, by go_num, ho4, r2, r1, HE, by unfold Hid; rw [List.length_append, HN.out]; rfl⟩
            case measure => simp [intOf]; omega
        have hw0 : wordS s = false := by simpa using hw
        by_cases hq1 : quotedS s = true
        · have HK : Hid (okS true s = true) := by unfold Hid okS termS; simp [hq1]
          by_cases hin : inB sn s = true
          · have HE : Hid (chk (kinds ts ns) [] = ((6 : Int), (sn.length : Int))) := by
              unfold Hid
              rw [← HF.out, HD.out]
              simp [chk, HK.out, hin]
            have hge : inS sn s ≥ 0 := inS_in hin
            go_wp2_with (first | (go_at_call 39; refine (refword_any s _ hs2).mono ?_; rintro e w' ⟨rfl, rfl⟩) | (go_at_call 40; refine (refquoted_any s _ hs2).mono ?_; rintro e w' ⟨rfl, rfl⟩) | (go_at_call 41; refine (in_gs hgs s hml).mono ?_; rintro e w' ⟨rfl, rfl⟩))
            go_returns
            exact ⟨_, _, rfl, by rw [HE.out], by rw [HE.out, HN.out], hb⟩
          · have hnin : inB sn s = false := by simpa using hin
            have HE : Hid (chk ((kinds ts ns).drop (k + 1)) (sn ++ [s]) = chk (kinds ts ns) []) := by
              unfold Hid
              rw [← HF.out, HD.out]
              simp [chk, HK.out, hnin]
            have hno : inS sn s = -1 := inS_out hnin
            have hnA : GS (wr.alloc (.cells #[.string s] 9)) (.slice a6 sn.length c6) sn := hgs.later (below_alloc wr _)
            have hy : (wr.alloc (.cells #[.string s] 9)).cell? ⟨wr.heap.size, 0, none⟩ = some (.string s) := by simp
            go_wp2_with (first | (go_at_call 39; refine (refword_any s _ hs2).mono ?_; rintro e w' ⟨rfl, rfl⟩) | (go_at_call 40; refine (refquoted_any s _ hs2).mono ?_; rintro e w' ⟨rfl, rfl⟩) | (go_at_call 41; refine (in_gs hgs s hml).mono ?_; rintro e w' ⟨rfl, rfl⟩) | (at_builtin; refine wpList_gs_append rfl _ _ rfl (.slice a6 sn.length c6) sn rfl hnA _ _ s rfl hy hle ?_; intro a4 n4 c4 w4 ho4 hg4; obtain rfl := gs_cnt ho4))
            obtain ⟨r1, r2⟩ := grew_below (hb.alloc hb.size _) hfresh hg4
            go_roundw
            case rel => exact ⟨k + 1, sn ++ [s], by omega, by go_num, ho4, r2, r1, HE, by unfold Hid; rw [List.length_append, HN.out]; rfl⟩
            case measure => simp [intOf]; omega
        have hq0 : quotedS s = false := by simpa using hq1
        have HK : Hid (okS true s = false) := by unfold Hid okS termS; simp [hw0, hq0]
        have HE : Hid (chk (kinds ts ns) [] = ((21 : Int), (sn.length : Int))) := by
          unfold Hid
          rw [← HF.out, HD.out]
          simp [chk, HK.out]
        go_wp2_with (first | (go_at_call 39; refine (refword_any s _ hs2).mono ?_; rintro e w' ⟨rfl, rfl⟩) | (go_at_call 40; refine (refquoted_any s _ hs2).mono ?_; rintro e w' ⟨rfl, rfl⟩))
        go_returns
        exact ⟨_, _, rfl, by rw [HE.out], by rw [HE.out, HN.out], hb⟩
      · have HD : Hid ((kinds ts ns).drop k = (false, ns.getD (k - ts.length) ByteArray.empty) :: (kinds ts ns).drop (k + 1)) := kinds_non (by omega) hlt2
        have hkt : ¬ (k : Int) < (ts.length : Int) := by omega
        have hsub : (k : Int) - (ts.length : Int) = ((k - ts.length : Nat) : Int) := by omega
        have hkn : ((k - ts.length : Nat) : Int) < (ns.length : Int) := by omega
        obtain ⟨q, off, rfl, hq, hc⟩ := hr2 (by intro h; subst h; simp at hlt hlt2; try omega)
        have h1 : wr.cell? ⟨q, off + (k - ts.length), none⟩ = some (.string (ns.getD (k - ts.length) ByteArray.empty)) := (hb.cell (p := ⟨q, off + (k - ts.length), none⟩) hq).trans (hc (k - ts.length) (by omega))
        have hs1 : (ns.getD (k - ts.length) ByteArray.empty).size ≤ maxLen := hz2 _ (by simp [List.getD, show (k - ts.length) < ns.length by omega])
        clear hc hr1 hr2 hz1 hz2
        generalize ns.getD (k - ts.length) ByteArray.empty = s at *
        have hs2 : s.size ≤ 9223372036854775807 := by unfold maxLen at hs1; omega
        by_cases hw : wordS s = true
        · have HK : Hid (okS false s = true) := by unfold Hid okS; simp [hw]
          by_cases hin : inB sn s = true
          · have HE : Hid (chk (kinds ts ns) [] = ((6 : Int), (sn.length : Int))) := by
              unfold Hid
              rw [← HF.out, HD.out]
              simp [chk, HK.out, hin]
            have hge : inS sn s ≥ 0 := inS_in hin
            go_wp2_with (first | (go_at_call 39; refine (refword_any s _ hs2).mono ?_; rintro e w' ⟨rfl, rfl⟩) | (go_at_call 40; refine (refquoted_any s _ hs2).mono ?_; rintro e w' ⟨rfl, rfl⟩) | (go_at_call 41; refine (in_gs hgs s hml).mono ?_; rintro e w' ⟨rfl, rfl⟩))
            go_returns
            exact ⟨_, _, rfl, by rw [HE.out], by rw [HE.out, HN.out], hb⟩
          · have hnin : inB sn s = false := by simpa using hin
            have HE : Hid (chk ((kinds ts ns).drop (k + 1)) (sn ++ [s]) = chk (kinds ts ns) []) := by
              unfold Hid
              rw [← HF.out, HD.out]
              simp [chk, HK.out, hnin]
            have hno : inS sn s = -1 := inS_out hnin
            have hnA : GS (wr.alloc (.cells #[.string s] 9)) (.slice a6 sn.length c6) sn := hgs.later (below_alloc wr _)
            have hy : (wr.alloc (.cells #[.string s] 9)).cell? ⟨wr.heap.size, 0, none⟩ = some (.string s) := by simp
            go_wp2_with (first | (go_at_call 39; refine (refword_any s _ hs2).mono ?_; rintro e w' ⟨rfl, rfl⟩) | (go_at_call 40; refine (refquoted_any s _ hs2).mono ?_; rintro e w' ⟨rfl, rfl⟩) | (go_at_call 41; refine (in_gs hgs s hml).mono ?_; rintro e w' ⟨rfl, rfl⟩) | (at_builtin; refine wpList_gs_append rfl _ _ rfl (.slice a6 sn.length c6) sn rfl hnA _ _ s rfl hy hle ?_; intro a4 n4 c4 w4 ho4 hg4; obtain rfl := gs_cnt ho4))
            obtain ⟨r1, r2⟩ := grew_below (hb.alloc hb.size _) hfresh hg4
            go_roundw
            case rel => exact ⟨k + 1, sn ++ [s], by omega, by go_num, ho4, r2, r1, HE, by unfold Hid; rw [List.length_append, HN.out]; rfl⟩
            case measure => simp [intOf]; omega
        have hw0 : wordS s = false := by simpa using hw
        have HK : Hid (okS false s = false) := by unfold Hid okS; simp [hw0]
        have HE : Hid (chk (kinds ts ns) [] = ((21 : Int), (sn.length : Int))) := by
          unfold Hid
          rw [← HF.out, HD.out]
          simp [chk, HK.out]
        go_wp2_with (first | (go_at_call 39; refine (refword_any s _ hs2).mono ?_; rintro e w' ⟨rfl, rfl⟩) | (go_at_call 40; refine (refquoted_any s _ hs2).mono ?_; rintro e w' ⟨rfl, rfl⟩))
        go_returns
        exact ⟨_, _, rfl, by rw [HE.out], by rw [HE.out, HN.out], hb⟩
    · have HE : Hid (chk (kinds ts ns) [] = ((0 : Int), (sn.length : Int))) := by
        unfold Hid
        rw [← HF.out, List.drop_eq_nil_of_le (by simp [kinds]; omega)]
        rfl
      have hki : ¬ (k : Int) < (ts.length : Int) + (ns.length : Int) := by omega
      go_wp2
      go_returns
      exact ⟨_, _, rfl, by rw [HE.out], by rw [HE.out], hb⟩
theorem refcheck_any (a1 a2 : Option Addr) (c1 c2 N1 N2 : Nat) (ts ns : List ByteArray) (w : World) (e1 : N1 = ts.length) (e2 : N2 = ns.length) (hz1 : ∀ s ∈ ts, s.size ≤ maxLen) (hz2 : ∀ s ∈ ns, s.size ≤ maxLen) (hr1 : StrRow w a1 ts) (hr2 : StrRow w a2 ns) :
    Calls Try.prog 10 #[.slice a1 N1 c1, .slice a2 N2 c2] w fun e w' => ∃ er at_, e = .returned (.tuple #[.int .i64 er, .int .i64 at_]) ∧ er = (checkF ts ns).1 ∧ at_ = (checkF ts ns).2 ∧ Below w.heap.size w w' := by
  subst e1 e2
  by_cases k1 : 64 < ts.length
  · have HE : Hid (checkF ts ns = (31, 0)) := by unfold Hid checkF; rw [if_pos k1]
    have k1' : (ts.length : Int) > 64 := by omega
    go_enter Try.func10, Try.ntmps10
    go_wp2
    go_returns
    exact ⟨_, _, rfl, by rw [HE.out], by rw [HE.out], Below.refl _ _⟩
  by_cases k2 : 64 < ns.length
  · have HE : Hid (checkF ts ns = (32, 0)) := by unfold Hid checkF; rw [if_neg k1, if_pos k2]
    have k1' : ¬ (ts.length : Int) > 64 := by omega
    have k2' : (ns.length : Int) > 64 := by omega
    go_enter Try.func10, Try.ntmps10
    go_wp2
    go_returns
    exact ⟨_, _, rfl, by rw [HE.out], by rw [HE.out], Below.refl _ _⟩
  have := refcheck_in a1 a2 c1 c2 ts ns w k1 k2 hz1 hz2 hr1 hr2
  rw [chk_is k1 k2] at this
  exact this
end Go.Proofs.Ytndjcbcdjcnniaa
