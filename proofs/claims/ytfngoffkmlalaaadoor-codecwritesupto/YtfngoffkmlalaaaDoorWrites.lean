import Derived.Test.YtfngoffkmlalaaaDoorRefW2
namespace Go.Proofs.YtfngoffkmlalaaaDoor
set_option linter.unusedVariables false
open Go.RowKit

/-- The two writers do not share memory. -/
def Apart2 (v v2 : Value) : Prop := ∀ k, v.ownBlock = some k → v2.ownBlock ≠ some k
theorem VInv.wgrew {w w' : World} {p q q2 : Nat} {v v' v2 : Value} {xs ys : List Int} {er e2 : Int} (hW : WInv w p q v xs er) (hV : VInv w q2 v2 ys e2) (hg : WGrew w w' q v v') (hap : Apart2 v v2) : VInv w' q2 v2 ys e2 ∧ Apart2 v' v2 := by
  have hqq : q2 ≠ q := by intro e; have := hV.hq; rw [e, hW.hq] at this; simp at this
  have h1 : some q2 ≠ v.ownBlock := own_ne hW.own hV.hq (by decide)
  have h2 : some q ≠ v2.ownBlock := own_ne hV.own hW.hq (by decide)
  refine ⟨hV.kept (hg.block q2 (lt_of_block hV.hq) hqq h1) fun k hk => hg.block k (hV.own.lt k hk) (fun e => h2 (by rw [hk, e])) (fun e => hap k e.symm hk), fun k hk hk2 => ?_⟩
  rcases hg.moved with e | ⟨z, e, hz⟩
  · exact hap k (e ▸ hk) hk2
  · rw [hk] at e; have := Option.some.inj e; have := hV.own.lt k hk2; omega
theorem WInv.vgrew {w w' : World} {p q q2 : Nat} {v v2 v2' : Value} {xs ys : List Int} {er e2 : Int} (hW : WInv w p q v xs er) (hV : VInv w q2 v2 ys e2) (hg : WGrew w w' q2 v2 v2') (hap : Apart2 v v2) : WInv w' p q v xs er ∧ Apart2 v v2' := by
  have hqq : q ≠ q2 := by intro e; have := hV.hq; rw [← e, hW.hq] at this; simp at this
  have hpq : p ≠ q2 := by intro e; have := hV.hq; rw [← e, hW.hp] at this; simp at this
  have h1 : some p ≠ v2.ownBlock := own_ne hV.own hW.hp (by decide)
  have h2 : some q ≠ v2.ownBlock := own_ne hV.own hW.hq (by decide)
  have h3 : some q2 ≠ v.ownBlock := own_ne hW.own hV.hq (by decide)
  refine ⟨⟨(hg.block p (lt_of_block hW.hp) hpq h1).trans hW.hp, (hg.block q (lt_of_block hW.hq) hqq h2).trans hW.hq, hW.own.kept fun k hk => hg.block k (hW.own.lt k hk) (fun e => h3 (by rw [hk, e])) (fun e => hap k hk e.symm)⟩, fun k hk hk2 => ?_⟩
  rcases hg.moved with e | ⟨z, e, hz⟩
  · exact hap k hk (e ▸ hk2)
  · rw [hk2] at e; have := Option.some.inj e; have := hW.own.lt k hk; omega
theorem WInv.later {w w' : World} {p q : Nat} {v : Value} {xs : List Int} {err : Int} (h : WInv w p q v xs err) (hb : Below w.heap.size w w') : WInv w' p q v xs err :=
  ⟨(hb.block p (lt_of_block h.hp)).trans h.hp, (hb.block q (lt_of_block h.hq)).trans h.hq, h.own.later hb⟩
theorem VInv.drewN {w : World} {q : Nat} {v : Value} {xs : List Int} {err : Int} (h : VInv w q v xs err) (n : Nat) : VInv (w.drewN n) q v xs err := h.later (below_drewN (Below.refl _ _) n)
theorem same_nil (w : World) : Calls Tryd.prog 16 #[.slice none 0 0, .slice none 0 0] w fun e w' => e = .returned (.bool true) ∧ Still w w' :=
  same_true none none 0 0 0 0 [] w rfl rfl (by simp) (RowAt.nil _ _) (RowAt.nil _ _)
theorem len_if (er : Int) (xs ys : List Int) (n : Nat) (h : ys.length ≤ n) : (if er = 0 then xs ++ ys else xs).length ≤ xs.length + n := by split <;> simp <;> omega
theorem len_if2 (er : Int) (xs : List Int) (ss : ByteArray) : (if er = 0 then xs ++ enc 10 (ss.size : Int) ++ strBytes ss else xs).length ≤ xs.length + (10 + ss.size) := by
  have h1 := enc_len 10 (ss.size : Int)
  have h2 := strBytes_len ss
  split
  · simp; omega
  · omega
theorem tot_succ (ps : List PutV) (j : Nat) (h : j < ps.length) : tot (ps.take (j + 1)) = tot (ps.take j) + (10 + (ps.getD j .none).s.size) := by
  have hg : ps.getD j .none = ps[j] := by simp [List.getD, h]
  rw [List.take_succ_eq_append_getElem h, hg]
  unfold tot
  rw [List.map_append, List.sum_append]
  rfl

set_option maxRecDepth 100000 in
set_option maxHeartbeats 8000000 in
theorem writes_any (B : Nat) (p q q2 : Nat) (bo : Option Addr) (cb : Nat) (ps : List PutV) (w : World) (hl : ps.length ≤ 2000000) (ht : tot ps ≤ 100000000) (hs : PutsAt w bo ps) (hbB : ps ≠ [] → ∀ b o, bo = some ⟨b, o, none⟩ → b < B) (hBw : B ≤ w.heap.size) (hBq : B ≤ q) (hBq2 : B ≤ q2)
    (hW0 : WInv w p q (.slice none 0 0) [] 0) (hV0 : VInv w q2 (.slice none 0 0) [] 0) :
    Calls Tryd.prog 21 #[.pointer (some ⟨p, 0, none⟩), .pointer (some ⟨q2, 0, none⟩), .slice bo ps.length cb] w fun e w' => e = .returned (.bool true) ∧ Below B w w' := by
  go_enter Tryd.func21, Tryd.ntmps21
  go_wp2
  go_loopw [7] (fun i wr => ∃ (j : Nat) (v v2 : Value) (xs : List Int) (er : Int), i = .int .i64 j ∧ j ≤ ps.length ∧ WInv wr p q v xs er ∧ VInv wr q2 v2 xs er ∧ Apart2 v v2 ∧ (∀ k, v.ownBlock = some k → B ≤ k) ∧ (∀ k, v2.ownBlock = some k → B ≤ k) ∧ xs.length ≤ tot (ps.take j) ∧ Below B w wr) (fun i _ => ps.length - (intOf i).toNat)
  case atStart => exact ⟨0, _, _, [], 0, rfl, Nat.zero_le _, hW0, hV0, fun k hk => by simp [Value.ownBlock] at hk, nil_own _, nil_own _, by simp, Below.refl _ _⟩
  case round =>
    obtain ⟨j, v, v2, xs, er, rfl, hj, hW, hV, hap, hv, hv2, hxl, hb⟩ := hrel
    clear hW0 hV0
    have htj := tot_take ps j
    have HL : Hid (xs.length ≤ 140737488355300) := by show _ ≤ _; omega
    have HL2 : Hid (xs.length ≤ 140737488355328) := by show _ ≤ _; omega
    by_cases hlt : j < ps.length
    · obtain ⟨b, off, rfl, hc⟩ := hs.2 (fun e => by subst e; simp at hlt)
      have hbl := hbB (fun e => by subst e; simp at hlt) b off rfl
      obtain ⟨k0, k1, k2, k3⟩ := hc j hlt
      have hok := hs.1 (ps.getD j .none) (by simp [List.getD, hlt])
      have hts := tot_succ ps j hlt
      obtain ⟨w0, w1', v0, v1, n0, n1, s1⟩ := hok
      generalize hpv : ps.getD j .none = pv at *
      have CC : Hid (∀ w', Below B w w' → w'.cell? ⟨b, off + j * 4, none⟩ = some (.int .i64 pv.what) ∧ w'.cell? ⟨b, off + j * 4 + 1, none⟩ = some (.int .u64 pv.V) ∧ w'.cell? ⟨b, off + j * 4 + 2, none⟩ = some (.int .i64 pv.N) ∧ w'.cell? ⟨b, off + j * 4 + 3, none⟩ = some (.string pv.s)) :=
        fun w' hb' => ⟨(hb'.cell (p := ⟨b, off + j * 4, none⟩) hbl).trans k0, (hb'.cell (p := ⟨b, off + j * 4 + 1, none⟩) hbl).trans k1, (hb'.cell (p := ⟨b, off + j * 4 + 2, none⟩) hbl).trans k2, (hb'.cell (p := ⟨b, off + j * 4 + 3, none⟩) hbl).trans k3⟩
      have HTS : Hid _ := hts
      have hxs : xs.length + pv.s.size ≤ 140737488355290 := by omega
      clear hc k0 k1 k2 k3 hpv hs hbB hts
      obtain ⟨wh, vv, nn, ss⟩ := pv
      simp only at w0 w1' v0 v1 n0 n1 s1 hxs
      obtain ⟨c0, c1, c2, c3⟩ := CC.out wr hb
      simp only at c0 c1 c2 c3
      by_cases q0 : wh = 0
      ·
        have b0 : (wh == 0) = true := by simp [q0]
        clear q0
        go_wp2_with (first
          | (go_at_call 24; refine (wnumber vv hW v0 v1 HL.out _ rfl).mono ?_; rintro e w4 ⟨rfl, v4, hW4, hg4⟩; obtain ⟨hV4, hap4⟩ := hV.wgrew hW hg4 hap; have hb4 := hb.trans (wgrew_below hg4 (Nat.le_trans hBw hb.size) hBq hv); have hv4 := wgrew_own hg4 hv (Nat.le_trans hBw hb.size); obtain ⟨d0, d1, d2, d3⟩ := CC.out w4 hb4; (simp only at d0 d1 d2 d3))
          | (go_at_call 56; refine (vnumber vv hV4 v0 v1 HL.out _ rfl).mono ?_; rintro e w5 ⟨rfl, v5, hV5, hg5⟩; obtain ⟨hW5, hap5⟩ := hW4.vgrew hV4 hg5 hap4; have hb5 := hb4.trans (wgrew_below hg5 (Nat.le_trans hBw hb4.size) hBq2 hv2); have hv5 := wgrew_own hg5 hv2 (Nat.le_trans hBw hb4.size)))
        go_roundw
        case rel => exact ⟨j + 1, v4, v5, (if er = 0 then xs ++ enc 10 vv else xs), er, by go_num, by omega, hW5, hV5, hap5, hv4, hv5, by rw [HTS.out]; exact Nat.le_trans (len_if er xs _ 10 (enc_len 10 _)) (by (try simp only []); omega), hb5⟩
        case measure => simp [intOf]; omega
      by_cases q1 : wh = 1
      ·
        have b0 : (wh == 0) = false := by simp [q1]
        have b1 : (wh == 1) = true := by simp [q1]
        clear q0 q1
        by_cases hneg : nn < 0
        ·
          go_wp2_with (first
            | (go_at_call 25; refine (wint_neg nn hW hneg _ rfl).mono ?_; rintro e w4 ⟨rfl, v4, hW4, hg4⟩; obtain ⟨hV4, hap4⟩ := hV.wgrew hW hg4 hap; have hb4 := hb.trans (wgrew_below hg4 (Nat.le_trans hBw hb.size) hBq hv); have hv4 := wgrew_own hg4 hv (Nat.le_trans hBw hb.size); obtain ⟨d0, d1, d2, d3⟩ := CC.out w4 hb4; (simp only at d0 d1 d2 d3))
            | (go_at_call 57; refine (vint_neg nn hV4 hneg _ rfl).mono ?_; rintro e w5 ⟨rfl, v5, hV5, hg5⟩; obtain ⟨hW5, hap5⟩ := hW4.vgrew hV4 hg5 hap4; have hb5 := hb4.trans (wgrew_below hg5 (Nat.le_trans hBw hb4.size) hBq2 hv2); have hv5 := wgrew_own hg5 hv2 (Nat.le_trans hBw hb4.size)))
          go_roundw
          case rel => exact ⟨j + 1, v4, v5, xs, (if er = 0 then 4 else er), by go_num, by omega, hW5, hV5, hap5, hv4, hv5, by rw [HTS.out]; exact Nat.le_trans (hxl) (by (try simp only []); omega), hb5⟩
          case measure => simp [intOf]; omega
        · have hpos : 0 ≤ nn := by omega
          go_wp2_with (first
            | (go_at_call 25; refine (wint_pos nn hW hpos n1 HL.out _ rfl).mono ?_; rintro e w4 ⟨rfl, v4, hW4, hg4⟩; obtain ⟨hV4, hap4⟩ := hV.wgrew hW hg4 hap; have hb4 := hb.trans (wgrew_below hg4 (Nat.le_trans hBw hb.size) hBq hv); have hv4 := wgrew_own hg4 hv (Nat.le_trans hBw hb.size); obtain ⟨d0, d1, d2, d3⟩ := CC.out w4 hb4; (simp only at d0 d1 d2 d3))
            | (go_at_call 57; refine (vint_pos nn hV4 hpos n1 HL.out _ rfl).mono ?_; rintro e w5 ⟨rfl, v5, hV5, hg5⟩; obtain ⟨hW5, hap5⟩ := hW4.vgrew hV4 hg5 hap4; have hb5 := hb4.trans (wgrew_below hg5 (Nat.le_trans hBw hb4.size) hBq2 hv2); have hv5 := wgrew_own hg5 hv2 (Nat.le_trans hBw hb4.size)))
          go_roundw
          case rel => exact ⟨j + 1, v4, v5, (if er = 0 then xs ++ enc 10 nn else xs), er, by go_num, by omega, hW5, hV5, hap5, hv4, hv5, by rw [HTS.out]; exact Nat.le_trans (len_if er xs _ 10 (enc_len 10 _)) (by (try simp only []); omega), hb5⟩
          case measure => simp [intOf]; omega
      by_cases q2' : wh = 2
      ·
        have b0 : (wh == 0) = false := by simp [q2']
        have b1 : (wh == 1) = false := by simp [q2']
        have b2 : (wh == 2) = true := by simp [q2']
        clear q0 q1 q2'
        go_wp2_with (first
          | (go_at_call 26; refine (wsigned nn hW n0 n1 HL.out _ rfl).mono ?_; rintro e w4 ⟨rfl, v4, hW4, hg4⟩; obtain ⟨hV4, hap4⟩ := hV.wgrew hW hg4 hap; have hb4 := hb.trans (wgrew_below hg4 (Nat.le_trans hBw hb.size) hBq hv); have hv4 := wgrew_own hg4 hv (Nat.le_trans hBw hb.size); obtain ⟨d0, d1, d2, d3⟩ := CC.out w4 hb4; (simp only at d0 d1 d2 d3))
          | (go_at_call 58; refine (vsigned nn hV4 n0 n1 HL.out _ rfl).mono ?_; rintro e w5 ⟨rfl, v5, hV5, hg5⟩; obtain ⟨hW5, hap5⟩ := hW4.vgrew hV4 hg5 hap4; have hb5 := hb4.trans (wgrew_below hg5 (Nat.le_trans hBw hb4.size) hBq2 hv2); have hv5 := wgrew_own hg5 hv2 (Nat.le_trans hBw hb4.size)))
        go_roundw
        case rel => exact ⟨j + 1, v4, v5, (if er = 0 then xs ++ enc 10 (foldS nn) else xs), er, by go_num, by omega, hW5, hV5, hap5, hv4, hv5, by rw [HTS.out]; exact Nat.le_trans (len_if er xs _ 10 (enc_len 10 _)) (by (try simp only []); omega), hb5⟩
        case measure => simp [intOf]; omega
      by_cases q3 : wh = 3
      ·
        have b0 : (wh == 0) = false := by simp [q3]
        have b1 : (wh == 1) = false := by simp [q3]
        have b2 : (wh == 2) = false := by simp [q3]
        have b3 : (wh == 3) = true := by simp [q3]
        clear q0 q1 q2' q3
        go_wp2_with (first
          | (go_at_call 59; refine (wflag (nn.tmod 2 != 0) hW HL.out _ rfl).mono ?_; rintro e w4 ⟨rfl, v4, hW4, hg4⟩; obtain ⟨hV4, hap4⟩ := hV.wgrew hW hg4 hap; have hb4 := hb.trans (wgrew_below hg4 (Nat.le_trans hBw hb.size) hBq hv); have hv4 := wgrew_own hg4 hv (Nat.le_trans hBw hb.size); obtain ⟨d0, d1, d2, d3⟩ := CC.out w4 hb4; (simp only at d0 d1 d2 d3))
          | (go_at_call 60; refine (vflag (nn.tmod 2 != 0) hV4 HL.out _ rfl).mono ?_; rintro e w5 ⟨rfl, v5, hV5, hg5⟩; obtain ⟨hW5, hap5⟩ := hW4.vgrew hV4 hg5 hap4; have hb5 := hb4.trans (wgrew_below hg5 (Nat.le_trans hBw hb4.size) hBq2 hv2); have hv5 := wgrew_own hg5 hv2 (Nat.le_trans hBw hb4.size)))
        go_roundw
        case rel => exact ⟨j + 1, v4, v5, (if er = 0 then xs ++ enc 10 (flagN (nn.tmod 2 != 0)) else xs), er, by go_num, by omega, hW5, hV5, hap5, hv4, hv5, by rw [HTS.out]; exact Nat.le_trans (len_if er xs _ 10 (enc_len 10 _)) (by (try simp only []); omega), hb5⟩
        case measure => simp [intOf]; omega
      by_cases q4 : wh = 4
      ·
        have b0 : (wh == 0) = false := by simp [q4]
        have b1 : (wh == 1) = false := by simp [q4]
        have b2 : (wh == 2) = false := by simp [q4]
        have b3 : (wh == 3) = false := by simp [q4]
        have b4 : (wh == 4) = true := by simp [q4]
        have hxs2 : xs.length + ss.size ≤ 140737488355300 := by omega
        clear q0 q1 q2' q3 q4
        go_wp2_with (first
          | (go_at_call 27; refine (wtext ss hW hxs2 _ rfl).mono ?_; rintro e w4 ⟨rfl, v4, hW4, hg4⟩; obtain ⟨hV4, hap4⟩ := hV.wgrew hW hg4 hap; have hb4 := hb.trans (wgrew_below hg4 (Nat.le_trans hBw hb.size) hBq hv); have hv4 := wgrew_own hg4 hv (Nat.le_trans hBw hb.size); obtain ⟨d0, d1, d2, d3⟩ := CC.out w4 hb4; (simp only at d0 d1 d2 d3))
          | (go_at_call 61; refine (vtext ss hV4 hxs _ rfl).mono ?_; rintro e w5 ⟨rfl, v5, hV5, hg5⟩; obtain ⟨hW5, hap5⟩ := hW4.vgrew hV4 hg5 hap4; have hb5 := hb4.trans (wgrew_below hg5 (Nat.le_trans hBw hb4.size) hBq2 hv2); have hv5 := wgrew_own hg5 hv2 (Nat.le_trans hBw hb4.size)))
        go_roundw
        case rel => exact ⟨j + 1, v4, v5, (if er = 0 then xs ++ enc 10 (ss.size : Int) ++ strBytes ss else xs), er, by go_num, by omega, hW5, hV5, hap5, hv4, hv5, by rw [HTS.out]; exact Nat.le_trans (len_if2 er xs ss) (by (try simp only []); omega), hb5⟩
        case measure => simp [intOf]; omega
      by_cases q5 : wh = 5
      ·
        have b0 : (wh == 0) = false := by simp [q5]
        have b1 : (wh == 1) = false := by simp [q5]
        have b2 : (wh == 2) = false := by simp [q5]
        have b3 : (wh == 3) = false := by simp [q5]
        have b4 : (wh == 4) = false := by simp [q5]
        have b5 : (wh == 5) = true := by simp [q5]
        clear q0 q1 q2' q3 q4 q5
        by_cases her : er = 0
        · subst her
          go_wp2_with (first
            | (go_at_call 28; refine (wbytes_at hW HL2.out).mono ?_; rintro e w4 ⟨a4, N4, c4, rfl, ho4, hf4, hb4'⟩; have hV4 := hV.later hb4'; have hW4 := hW.later hb4'; have hb4 := hb.trans (hb4'.mono (Nat.le_trans hBw hb.size)); clear hb4')
            | (go_at_call 62; refine (vbytes_ok hV4 HL2.out).mono ?_; rintro e w5 ⟨a5, N5, c5, rfl, ho5, hb5'⟩; have hV5 := hV4.later hb5'; have hW5 := hW4.later hb5'; have ho45 := ho4.later hb5'; have hb5 := hb4.trans (hb5'.mono (Nat.le_trans hBw hb4.size)); have OL4 : Hid _ := own_len ho45; have OL5 : Hid _ := own_len ho5; clear hb5' ho45 ho5 ho4)
            | (go_at_call 16; refine (same_true a4 a5 N4 N5 c4 c5 xs w5 OL4.out.1 OL5.out.1 HL2.out OL4.out.2.1 OL5.out.2.1).mono ?_; rintro e w6 ⟨rfl, hs6⟩; have hV6 := hV5.later (hs6 _); have hW6 := hW5.later (hs6 _); have hb6 := hb5.trans (hs6 _); clear hs6)
            | (go_at_call 17; refine (num_any 0 w6).mono ?_; rintro e w7 ⟨rfl, rfl⟩))
          go_roundw
          case rel => exact ⟨j + 1, v, v2, xs, 0, by go_num, by omega, hW6, hV6, hap, hv, hv2, by rw [HTS.out]; omega, hb6⟩
          case measure => simp [intOf]; omega
        · have HE : Hid (er ≠ 0) := her
          clear her
          go_wp2_with (first
            | (go_at_call 28; refine (wbytes_err hW HE.out).mono ?_; rintro e w4 ⟨rfl, n4, hw4⟩; have hb4' : Below wr.heap.size wr w4 := hw4 ▸ below_drewN (Below.refl _ _) n4; have hV4 := hV.later hb4'; have hW4 := hW.later hb4'; have hb4 := hb.trans (hb4'.mono (Nat.le_trans hBw hb.size)); clear hb4' hw4)
            | (go_at_call 62; refine (vbytes_err hV4 HE.out).mono ?_; rintro e w5 ⟨rfl, n5, hw5⟩; have hb5' : Below w4.heap.size w4 w5 := hw5 ▸ below_drewN (Below.refl _ _) n5; have hV5 := hV4.later hb5'; have hW5 := hW4.later hb5'; have hb5 := hb4.trans (hb5'.mono (Nat.le_trans hBw hb4.size)); clear hb5' hw5)
            | (go_at_call 16; refine (same_nil w5).mono ?_; rintro e w6 ⟨rfl, hs6⟩; have hV6 := hV5.later (hs6 _); have hW6 := hW5.later (hs6 _); have hb6 := hb5.trans (hs6 _); clear hs6)
            | (go_at_call 17; refine (num_any er w6).mono ?_; rintro e w7 ⟨rfl, rfl⟩))
          go_roundw
          case rel => exact ⟨j + 1, v, v2, xs, er, by go_num, by omega, hW6, hV6, hap, hv, hv2, by rw [HTS.out]; omega, hb6⟩
          case measure => simp [intOf]; omega
      · have b0 : (wh == 0) = false := by simp [q0]
        have b1 : (wh == 1) = false := by simp [q1]
        have b2 : (wh == 2) = false := by simp [q2']
        have b3 : (wh == 3) = false := by simp [q3]
        have b4 : (wh == 4) = false := by simp [q4]
        have b5 : (wh == 5) = false := by simp [q5]
        clear q0 q1 q2' q3 q4 q5
        go_wp2
        go_roundw
        case rel => exact ⟨j + 1, v, v2, xs, er, by go_num, by omega, hW, hV, hap, hv, hv2, by rw [HTS.out]; omega, hb⟩
        case measure => simp [intOf]; omega
    · have hje : j = ps.length := by omega
      clear htj hs hbB
      by_cases her : er = 0
      · subst her
        go_wp2_with (first
          | (go_at_call 28; refine (wbytes_at hW HL2.out).mono ?_; rintro e w4 ⟨a4, N4, c4, rfl, ho4, hf4, hb4'⟩; have hV4 := hV.later hb4'; have hW4 := hW.later hb4'; have hb4 := hb.trans (hb4'.mono (Nat.le_trans hBw hb.size)); clear hb4')
          | (go_at_call 62; refine (vbytes_ok hV4 HL2.out).mono ?_; rintro e w5 ⟨a5, N5, c5, rfl, ho5, hb5'⟩; have hV5 := hV4.later hb5'; have hW5 := hW4.later hb5'; have ho45 := ho4.later hb5'; have hb5 := hb4.trans (hb5'.mono (Nat.le_trans hBw hb4.size)); have OL4 : Hid _ := own_len ho45; have OL5 : Hid _ := own_len ho5; clear hb5' ho45 ho5 ho4)
          | (go_at_call 16; refine (same_true a4 a5 N4 N5 c4 c5 xs w5 OL4.out.1 OL5.out.1 HL2.out OL4.out.2.1 OL5.out.2.1).mono ?_; rintro e w6 ⟨rfl, hs6⟩; have hV6 := hV5.later (hs6 _); have hW6 := hW5.later (hs6 _); have hb6 := hb5.trans (hs6 _); clear hs6)
          | (go_at_call 17; refine (num_any 0 w6).mono ?_; rintro e w7 ⟨rfl, rfl⟩))
        go_ret
        exact ⟨rfl, hb6⟩
      · have HE : Hid (er ≠ 0) := her
        clear her
        go_wp2_with (first
          | (go_at_call 28; refine (wbytes_err hW HE.out).mono ?_; rintro e w4 ⟨rfl, n4, hw4⟩; have hb4' : Below wr.heap.size wr w4 := hw4 ▸ below_drewN (Below.refl _ _) n4; have hV4 := hV.later hb4'; have hW4 := hW.later hb4'; have hb4 := hb.trans (hb4'.mono (Nat.le_trans hBw hb.size)); clear hb4' hw4)
          | (go_at_call 62; refine (vbytes_err hV4 HE.out).mono ?_; rintro e w5 ⟨rfl, n5, hw5⟩; have hb5' : Below w4.heap.size w4 w5 := hw5 ▸ below_drewN (Below.refl _ _) n5; have hV5 := hV4.later hb5'; have hW5 := hW4.later hb5'; have hb5 := hb4.trans (hb5'.mono (Nat.le_trans hBw hb4.size)); clear hb5' hw5)
          | (go_at_call 16; refine (same_nil w5).mono ?_; rintro e w6 ⟨rfl, hs6⟩; have hV6 := hV5.later (hs6 _); have hW6 := hW5.later (hs6 _); have hb6 := hb5.trans (hs6 _); clear hs6)
          | (go_at_call 17; refine (num_any er w6).mono ?_; rintro e w7 ⟨rfl, rfl⟩))
        go_ret
        exact ⟨rfl, hb6⟩

theorem vinv_new (w : World) : VInv (w.alloc (.cells #[.slice none 0 0, .int .i64 0] 58)) w.heap.size (.slice none 0 0) [] 0 :=
  ⟨heap_alloc_new w _, Own.nil _⟩
theorem puts_lt {w : World} {bo : Option Addr} {ps : List PutV} (hs : PutsAt w bo ps) (hne : ps ≠ []) (b o : Nat) (h : bo = some ⟨b, o, none⟩) : b < w.heap.size := by
  obtain ⟨b', off, hb, hc⟩ := hs.2 hne
  rw [h] at hb; cases hb
  obtain ⟨k0, _⟩ := hc 0 (List.length_pos_iff.mpr hne)
  exact World.block_lt_of_cell? w _ k0
set_option maxRecDepth 100000 in
set_option maxHeartbeats 4000000 in
theorem writes_walk (bo : Option Addr) (cb : Nat) (ps : List PutV) (w : World) (hm : Magic w) (hl : ps.length ≤ 2000000) (ht : tot ps ≤ 100000000) (hs : PutsAt w bo ps) :
    Calls Tryd.prog 4 #[.slice bo ps.length cb] w fun e w' => e = .returned (.bool true) ∧ Below w.heap.size w w' := by
  go_enter Tryd.func4, Tryd.ntmps4
  go_wp2_with (first
    | (go_at_call 20; refine (newwriter_at w).mono ?_; rintro e w2 ⟨p, q, rfl, hW2, hq2, hb2⟩; have hm2 := hm.later hb2 hm.lt; have hs2 := (hs.later hb2).later (below_alloc w2 (.cells #[.slice none 0 0, .int .i64 0] 58)); have hW3 := hW2.later (below_alloc w2 (.cells #[.slice none 0 0, .int .i64 0] 58)); have hb3 := hb2.trans ((below_alloc w2 (.cells #[.slice none 0 0, .int .i64 0] 58)).mono hb2.size))
    | (go_at_call 21; refine (writes_any w.heap.size p q w2.heap.size bo cb ps _ hl ht hs2 (puts_lt hs) hb3.size hq2 hb2.size hW3 (vinv_new w2)).mono ?_; rintro e w4 ⟨rfl, hb4'⟩; have hb4 := hb3.trans hb4'; have hm4 := hm.later hb4 hm.lt)
    | (go_at_call 19; refine (alive_any w4 hm4).mono ?_; rintro e w5 ⟨rfl, hb5'⟩; have hb5 := hb4.trans (hb5'.mono hb4.size)))
  go_ret
  exact ⟨rfl, hb5⟩
end Go.Proofs.YtfngoffkmlalaaaDoor
