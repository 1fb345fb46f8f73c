import Derived.Test.YtfngoffkmlalaaaDoorBack0
namespace Go.Proofs.YtfngoffkmlalaaaDoor
set_option linter.unusedVariables false
open Go.RowKit

theorem RInv.drew {w : World} {r : Nat} {ao : Option Addr} {N cap : Nat} {xs : List Int} {pos : Nat} {err : Int} (h : RInv w r ao N cap xs pos err) : RInv w.drew r ao N cap xs pos err := h.later (Below.refl _ _).drew
theorem rsigned_eq {w : World} {r : Nat} {ao : Option Addr} {N cap : Nat} {xs : List Int} {pos : Nat} {err : Int} (most : Int) (h : RInv w r ao N cap xs pos err) (hm : 0 ≤ most) (hm1 : most ≤ 9223372036854775807) (n : Int) (p : Nat) (e : Int) (ht : takeS xs pos err (foldS most) = (n, p, e)) (hn0 : 0 ≤ n) (hn1 : n ≤ 18446744073709551615) (m : Int) (hu : unfoldS n = m) :
    Calls Tryd.prog 31 #[.pointer (some ⟨r, 0, none⟩), .int .i64 most] w fun x w' => x = .returned (.int .i64 m) ∧ RInv w' r ao N cap xs p e ∧ ROnly w w' r := by
  subst hu
  exact rsigned_any most h hm hm1 n p e ht hn0 hn1
theorem rtext_eq {w : World} {r : Nat} {ao : Option Addr} {N cap : Nat} {xs : List Int} {pos : Nat} (most : Int) (h : RInv w r ao N cap xs pos 0) (hm0 : -9223372036854775808 ≤ most) (hm1 : most ≤ 9223372036854775807) (n s : Nat) (hc : countS xs pos 1 most = ((n : Int), (s : Int), 0)) (str : ByteArray) (hs : (xs.drop (pos + s)).take n = strBytes str) :
    Calls Tryd.prog 32 #[.pointer (some ⟨r, 0, none⟩), .int .i64 most] w fun x w' => x = .returned (.string str) ∧ RInv w' r ao N cap xs (pos + s + n) 0 ∧ ROnly w w' r :=
  (rtext_ok most h hm0 hm1 n s hc).mono fun x w' ⟨str', h1, h2, h3, h4⟩ => by
    have : str' = str := strBytes_inj (h2.trans hs)
    subst this
    exact ⟨h1, h3, h4⟩

set_option maxRecDepth 100000 in
set_option maxHeartbeats 4000000 in
theorem back_walk (bo : Option Addr) (cb : Nat) (ps : List PutV) (w : World) (hm : Magic w) (hl : ps.length ≤ 2000000) (ht : tot ps ≤ 100000000) (hs : PutsAt w bo ps) :
    Calls Tryd.prog 6 #[.slice bo ps.length cb] w fun e w' => e = .returned (.bool true) ∧ Below w.heap.size w w' := by
  go_enter Tryd.func6, Tryd.ntmps6
  go_wp2_with (first
    | (go_at_call 19; refine (alive_any w hm).mono ?_; rintro e w1 ⟨rfl, hb1⟩)
    | (go_at_call 20; refine (newwriter_at w1).mono ?_; rintro e w2 ⟨p, q, rfl, hW2, hq2, hb2⟩; have hb2' := hb1.trans (hb2.mono hb1.size); have hqq := Nat.le_trans hb1.size hq2))
  go_loopw [4] (fun i wr => ∃ (j : Nat) (v : Value), i = .int .i64 j ∧ j ≤ ps.length ∧ WInv wr p q v (stAt ps j).1 (stAt ps j).2 ∧ (∀ k, v.ownBlock = some k → w.heap.size ≤ k) ∧ Below w.heap.size w wr) (fun i _ => ps.length - (intOf i).toNat)
  case atStart => exact ⟨0, _, rfl, Nat.zero_le _, hW2, fun k hk => by simp [Value.ownBlock] at hk, hb2'⟩
  case round =>
    obtain ⟨j, v, rfl, hj, hW, hv, hb⟩ := hrel
    clear hW2 hb2 hb1 hq2 hb2'
    by_cases hlt : j < ps.length
    · obtain ⟨b, off, rfl, hc⟩ := hs.2 (fun e => by subst e; simp at hlt)
      obtain ⟨k0, k1, k2, k3⟩ := hc j hlt
      have c0 := (hb.cell (p := ⟨b, off + j * 4, none⟩) (World.block_lt_of_cell? w _ k0)).trans k0
      have c1 := (hb.cell (p := ⟨b, off + j * 4 + 1, none⟩) (World.block_lt_of_cell? w _ k1)).trans k1
      have c2 := (hb.cell (p := ⟨b, off + j * 4 + 2, none⟩) (World.block_lt_of_cell? w _ k2)).trans k2
      have c3 := (hb.cell (p := ⟨b, off + j * 4 + 3, none⟩) (World.block_lt_of_cell? w _ k3)).trans k3
      have hok := hs.1 (ps.getD j .none) (by simp [List.getD, hlt])
      have hst := stAt_succ ps j hlt
      have hlm := stAt_lim ps j hj ht
      obtain ⟨w0, w1', v0, v1, n0, n1, s1⟩ := hok
      obtain ⟨xs, er, hxe⟩ : ∃ xs er, stAt ps j = (xs, er) := ⟨_, _, rfl⟩
      rw [hxe] at hW hst hlm
      simp only at hW hlm
      have HL : Hid (xs.length ≤ 140737488355300) := by show _ ≤ _; omega
      have HL0 : Hid (xs.length ≤ 100000000) := hlm
      generalize hpv : ps.getD j .none = pv at *
      have HG : Hid (¬ (pv.what = 1 ∧ pv.N < 0) → stAt ps (j + 1) = (if er = 0 then xs ++ item pv else xs, er)) := fun h => by rw [hst]; exact putS_good xs er pv h
      have HB : Hid (pv.what = 1 ∧ pv.N < 0 → stAt ps (j + 1) = (xs, if er = 0 then 4 else er)) := fun h => by rw [hst]; exact putS_bad xs er pv h
      clear hc k0 k1 k2 k3 hst hxe hpv hlm hs
      obtain ⟨wh, vv, nn, ss⟩ := pv
      simp only at c0 c1 c2 c3 w0 w1' v0 v1 n0 n1 s1
      by_cases q0 : wh = 0
      · have b0 : (wh == 0) = true := by simp [q0]
        have HX : Hid (stAt ps (j + 1) = (if er = 0 then xs ++ enc 10 vv else xs, er)) := by
          have := HG.out (by simp [q0]); rw [show item ⟨wh, vv, nn, ss⟩ = enc 10 vv by simp [item, q0]] at this; exact this
        clear q0 HG HB
        go_wp2_with (go_at_call 24; refine (wnumber vv hW v0 v1 HL.out (stAt ps (j + 1)).1 (by rw [HX.out])).mono ?_; rintro e w4 ⟨rfl, v4, r1, r2⟩; have hb4 := hb.trans (wgrew_below r2 hb.size hqq hv); have hv4 := wgrew_own r2 hv hb.size)
        go_roundw
        case rel => exact ⟨j + 1, v4, by go_num, by omega, by rw [show (stAt ps (j + 1)).2 = er by rw [HX.out]]; exact r1, hv4, hb4⟩
        case measure => simp [intOf]; omega
      by_cases q1 : wh = 1
      · have b0 : (wh == 0) = false := by simp [q1]
        have b1 : (wh == 1) = true := by simp [q1]
        by_cases hneg : nn < 0
        · have HX : Hid (stAt ps (j + 1) = (xs, if er = 0 then 4 else er)) := HB.out ⟨q1, hneg⟩
          clear q0 q1 HG HB
          go_wp2_with (go_at_call 25; refine (wint_neg nn hW hneg (stAt ps (j + 1)).2 (by rw [HX.out])).mono ?_; rintro e w4 ⟨rfl, v4, r1, r2⟩; have hb4 := hb.trans (wgrew_below r2 hb.size hqq hv); have hv4 := wgrew_own r2 hv hb.size)
          go_roundw
          case rel => exact ⟨j + 1, v4, by go_num, by omega, by rw [show (stAt ps (j + 1)).1 = xs by rw [HX.out]]; exact r1, hv4, hb4⟩
          case measure => simp [intOf]; omega
        · have hpos : 0 ≤ nn := by omega
          have HX : Hid (stAt ps (j + 1) = (if er = 0 then xs ++ enc 10 nn else xs, er)) := by
            have := HG.out (by simp; intro _; omega); rw [show item ⟨wh, vv, nn, ss⟩ = enc 10 nn by simp [item, q1]] at this; exact this
          clear q0 q1 HG HB
          go_wp2_with (go_at_call 25; refine (wint_pos nn hW hpos n1 HL.out (stAt ps (j + 1)).1 (by rw [HX.out])).mono ?_; rintro e w4 ⟨rfl, v4, r1, r2⟩; have hb4 := hb.trans (wgrew_below r2 hb.size hqq hv); have hv4 := wgrew_own r2 hv hb.size)
          go_roundw
          case rel => exact ⟨j + 1, v4, by go_num, by omega, by rw [show (stAt ps (j + 1)).2 = er by rw [HX.out]]; exact r1, hv4, hb4⟩
          case measure => simp [intOf]; omega
      by_cases q2 : wh = 2
      · have b0 : (wh == 0) = false := by simp [q2]
        have b1 : (wh == 1) = false := by simp [q2]
        have b2 : (wh == 2) = true := by simp [q2]
        have HX : Hid (stAt ps (j + 1) = (if er = 0 then xs ++ enc 10 (foldS nn) else xs, er)) := by
          have := HG.out (by simp [q2]); rw [show item ⟨wh, vv, nn, ss⟩ = enc 10 (foldS nn) by simp [item, q2]] at this; exact this
        clear q0 q1 q2 HG HB
        go_wp2_with (go_at_call 26; refine (wsigned nn hW n0 n1 HL.out (stAt ps (j + 1)).1 (by rw [HX.out])).mono ?_; rintro e w4 ⟨rfl, v4, r1, r2⟩; have hb4 := hb.trans (wgrew_below r2 hb.size hqq hv); have hv4 := wgrew_own r2 hv hb.size)
        go_roundw
        case rel => exact ⟨j + 1, v4, by go_num, by omega, by rw [show (stAt ps (j + 1)).2 = er by rw [HX.out]]; exact r1, hv4, hb4⟩
        case measure => simp [intOf]; omega
      by_cases q4 : wh = 4
      · have b0 : (wh == 0) = false := by simp [q4]
        have b1 : (wh == 1) = false := by simp [q4]
        have b2 : (wh == 2) = false := by simp [q4]
        have b4 : (wh == 4) = true := by simp [q4]
        have HX : Hid (stAt ps (j + 1) = (if er = 0 then xs ++ enc 10 ss.size ++ strBytes ss else xs, er)) := by
          have := HG.out (by simp [q4]); rw [show item ⟨wh, vv, nn, ss⟩ = enc 10 ss.size ++ strBytes ss by simp [item, q4], ← List.append_assoc] at this; exact this
        have HLS : Hid (xs.length + ss.size ≤ 140737488355300) := by show _ ≤ _; have := HL0.out; omega
        clear q0 q1 q2 q4 HG HB
        go_wp2_with (go_at_call 27; refine (wtext ss hW HLS.out (stAt ps (j + 1)).1 (by rw [HX.out])).mono ?_; rintro e w4 ⟨rfl, v4, r1, r2⟩; have hb4 := hb.trans (wgrew_below r2 hb.size hqq hv); have hv4 := wgrew_own r2 hv hb.size)
        go_roundw
        case rel => exact ⟨j + 1, v4, by go_num, by omega, by rw [show (stAt ps (j + 1)).2 = er by rw [HX.out]]; exact r1, hv4, hb4⟩
        case measure => simp [intOf]; omega
      · have b0 : (wh == 0) = false := by simp [q0]
        have b1 : (wh == 1) = false := by simp [q1]
        have b2 : (wh == 2) = false := by simp [q2]
        have b4 : (wh == 4) = false := by simp [q4]
        have HX : Hid (stAt ps (j + 1) = (xs, er)) := by
          have := HG.out (by simp [q1]); rw [show item ⟨wh, vv, nn, ss⟩ = [] by simp [item, q0, q1, q2, q4], List.append_nil] at this; show _ = _; simpa using this
        clear q0 q1 q2 q4 HG HB
        go_wp2
        go_roundw
        case rel => exact ⟨j + 1, v, by go_num, by omega, by rw [HX.out]; exact hW, hv, hb⟩
        case measure => simp [intOf]; omega
    · have hje : j = ps.length := by omega
      subst hje
      obtain ⟨zs, er, hze⟩ : ∃ zs er, stAt ps ps.length = (zs, er) := ⟨_, _, rfl⟩
      have hlm := stAt_lim ps ps.length (Nat.le_refl _) ht
      have her := stAt_err ps ps.length (Nat.le_refl _)
      rw [hze] at hW hlm her
      simp only at hW hlm her
      have HZ : Hid (zs.length ≤ 140737488355328) := by show _ ≤ _; omega
      by_cases he : er = 0
      · subst he
        have HI := fun j hj => stAt_item ps j hj (by rw [hze])
        rw [hze] at HI
        have HIT : Hid _ := HI
        clear HI her
        go_wp2_with (first
          | (go_at_call 28; refine (wbytes_at hW HZ.out).mono ?_; rintro e w3 ⟨a3, N3, c3, rfl, ho3, hk3, hb3⟩; have hb3' := hb.trans (hb3.mono hb.size); have OL3 : Hid _ := own_len ho3)
          | (go_at_call 17; refine (num_any _ _).mono ?_; rintro e w' ⟨rfl, rfl⟩)
          | (go_at_call 22; refine (newreader_any a3 N3 c3 zs w3 OL3.out.1 HZ.out OL3.out.2.1 OL3.out.2.2).mono ?_; rintro e w4 ⟨r, ao4, N4, c4, rfl, hR4, hr4, hb4⟩; have hb4' := hb3'.trans (hb4.mono hb3'.size); have hrr := Nat.le_trans hb3'.size hr4))
        clear hW hv hb ho3 hk3 hb3 hb3' hb4
        have HZE : Hid _ := hze
        clear hze
        go_loopw [8] (fun i wr => ∃ (j : Nat), i = .int .i64 j ∧ j ≤ ps.length ∧ RInv wr r ao4 N4 c4 zs (stAt ps j).1.length 0 ∧ Below w.heap.size w wr) (fun i _ => ps.length - (intOf i).toNat)
        case atStart => exact ⟨0, rfl, Nat.zero_le _, hR4, hb4'⟩
        case round =>
          obtain ⟨j, rfl, hj2, hR, hb5⟩ := hrel
          clear hR4 hb4'
          by_cases hlt2 : j < ps.length
          ·
            obtain ⟨b, off, rfl, hc⟩ := hs.2 (fun e => by subst e; simp at hlt2)
            obtain ⟨k0, k1, k2, k3⟩ := hc j hlt2
            have hblt : b < w.heap.size := World.block_lt_of_cell? w _ k0
            have c0 := (hb5.cell (p := ⟨b, off + j * 4, none⟩) hblt).trans k0
            have c1 := (hb5.cell (p := ⟨b, off + j * 4 + 1, none⟩) hblt).trans k1
            have c2 := (hb5.cell (p := ⟨b, off + j * 4 + 2, none⟩) hblt).trans k2
            have c3 := (hb5.cell (p := ⟨b, off + j * 4 + 3, none⟩) hblt).trans k3
            have HBL : Hid (b < wr.heap.size) := Nat.lt_of_lt_of_le hblt hb5.size
            have HBR : Hid (b ≠ r) := by show _ ≠ _; omega
            have hok := hs.1 (ps.getD j .none) (by simp [List.getD, hlt2])
            obtain ⟨w0, w1', v0, v1, n0, n1, s1⟩ := hok
            obtain ⟨_, hgood, hnext, t, hzs⟩ := HIT.out j hlt2
            have hdrop : zs.drop (stAt ps j).1.length = item (ps.getD j .none) ++ t := by rw [hzs]; exact drop_pre _ _
            have hnl : (stAt ps (j + 1)).1.length = (stAt ps j).1.length + (item (ps.getD j .none)).length := by rw [hnext, List.length_append]
            generalize (stAt ps j).1.length = pos at *
            generalize hpv : ps.getD j .none = pv at *
            have hRd := hR.drewN 0
            have HD : Hid _ := hdrop
            have HNL : Hid _ := hnl
            have HGD : Hid _ := hgood
            clear hc k0 k1 k2 k3 hzs hnext hdrop hnl hgood hpv hblt HIT HZE hs
            obtain ⟨wh, vv, nn, ss⟩ := pv
            simp only at c0 c1 c2 c3 w0 w1' v0 v1 n0 n1 s1
            by_cases q0 : wh = 0
            · have b0 : (wh == 0) = true := by simp [q0]
              have ei : item ⟨wh, vv, nn, ss⟩ = enc 10 vv := by simp [item, q0]
              have HT : Hid (takeS zs pos 0 18446744073709551615 = (vv, pos + (enc 10 vv).length, 0)) := takeS_enc zs pos _ vv t (by rw [← ei]; exact HD.out) v0 (by omega) v1
              have HNX : Hid ((stAt ps (j + 1)).1.length = pos + (enc 10 vv).length) := by show _ = _; rw [← ei]; exact HNL.out
              clear q0 ei HD HNL HGD
              go_wp2_with fail
              go_region_held3 (fun w' => w'.cell? ⟨b, off + j * 4 + 1, none⟩ = some (.int .u64 vv)) (first | assumption | go_keep)
                (first | (go_at_call 29; refine (rnumber_any hR.drew vv (pos + (enc 10 vv).length) 0 HT.out).mono ?_; rintro e w6 ⟨rfl, hR6, hO6⟩; have hcS := (World.cell?_of_block (a := ⟨b, off + j * 4 + 1, none⟩) (hO6.block b HBL.out HBR.out)).trans c1; have hb6 := (hb5.drew).trans (hO6.below hrr hb5.drew.size)))
              all_goals go_wp2
              all_goals go_roundw
              all_goals first
                | exact ⟨j + 1, by go_num, by omega, by rw [HNX.out]; exact hR6, hb6⟩
                | (simp [intOf]; omega)
            by_cases q1 : wh = 1
            · have b0 : (wh == 0) = false := by simp [q1]
              have b1 : (wh == 1) = true := by simp [q1]
              have hpos : 0 ≤ nn := by have h : ¬ (wh = 1 ∧ nn < 0) := HGD.out; omega
              have ei : item ⟨wh, vv, nn, ss⟩ = enc 10 nn := by simp [item, q1]
              have HT : Hid (takeS zs pos 0 9223372036854775807 = (nn, pos + (enc 10 nn).length, 0)) := takeS_enc zs pos _ nn t (by rw [← ei]; exact HD.out) hpos (by omega) n1
              have HNX : Hid ((stAt ps (j + 1)).1.length = pos + (enc 10 nn).length) := by show _ = _; rw [← ei]; exact HNL.out
              clear q0 q1 ei HD HNL HGD
              go_wp2_with fail
              go_region_held3 (fun w' => w'.cell? ⟨b, off + j * 4 + 2, none⟩ = some (.int .i64 nn)) (first | assumption | go_keep)
                (first | (go_at_call 30; refine (rint_any 9223372036854775807 hR.drew (by decide) (by decide) nn (pos + (enc 10 nn).length) 0 HT.out hpos n1).mono ?_; rintro e w6 ⟨rfl, hR6, hO6⟩; have hcS := (World.cell?_of_block (a := ⟨b, off + j * 4 + 2, none⟩) (hO6.block b HBL.out HBR.out)).trans c2; have hb6 := (hb5.drew).trans (hO6.below hrr hb5.drew.size)))
              all_goals go_wp2
              all_goals go_roundw
              all_goals first
                | exact ⟨j + 1, by go_num, by omega, by rw [HNX.out]; exact hR6, hb6⟩
                | (simp [intOf]; omega)
            by_cases q2 : wh = 2
            · have b0 : (wh == 0) = false := by simp [q2]
              have b1 : (wh == 1) = false := by simp [q2]
              have b2 : (wh == 2) = true := by simp [q2]
              obtain ⟨fb0, fb1⟩ := foldS_bd nn n0 n1
              have ei : item ⟨wh, vv, nn, ss⟩ = enc 10 (foldS nn) := by simp [item, q2]
              have HNX : Hid ((stAt ps (j + 1)).1.length = pos + (enc 10 (foldS nn)).length) := by show _ = _; rw [← ei]; exact HNL.out
              have hd : zs.drop pos = enc 10 (foldS nn) ++ t := by rw [← ei]; exact HD.out
              by_cases hgt : -9223372036854775808 < nn
              · have hmx : foldS nn ≤ foldS 9223372036854775807 := by unfold foldS; split <;> simp <;> omega
                have HT : Hid (takeS zs pos 0 (foldS 9223372036854775807) = (foldS nn, pos + (enc 10 (foldS nn)).length, 0)) := takeS_enc zs pos _ _ t hd fb0 (by omega) hmx
                have HU : Hid _ := unfold_fold nn
                clear q0 q1 q2 ei HD HNL HGD hd hmx
                go_wp2_with fail
                go_region_held3 (fun w' => w'.cell? ⟨b, off + j * 4 + 2, none⟩ = some (.int .i64 nn)) (first | assumption | go_keep)
                  (first | (go_at_call 31; refine (rsigned_eq 9223372036854775807 hR.drew (by decide) (by decide) (foldS nn) (pos + (enc 10 (foldS nn)).length) 0 HT.out fb0 fb1 nn HU.out).mono ?_; rintro e w6 ⟨rfl, hR6, hO6⟩; have hcS := (World.cell?_of_block (a := ⟨b, off + j * 4 + 2, none⟩) (hO6.block b HBL.out HBR.out)).trans c2; have hb6 := (hb5.drew).trans (hO6.below hrr hb5.drew.size)))
                all_goals go_wp2
                all_goals go_roundw
                all_goals first
                  | exact ⟨j + 1, by go_num, by omega, by rw [HNX.out]; exact hR6, hb6⟩
                  | (simp [intOf]; omega)
              · have hmin : nn = -9223372036854775808 := by omega
                have HT : Hid (takeS zs pos 0 18446744073709551615 = (18446744073709551615, pos + (enc 10 (foldS nn)).length, 0)) := by
                  have := takeS_enc zs pos 18446744073709551615 _ t hd fb0 (by omega) fb1
                  rw [show foldS nn = 18446744073709551615 by rw [hmin]; decide] at this ⊢
                  exact this
                clear q0 q1 q2 ei HD HNL HGD hd hmin fb0 fb1
                go_wp2_with (go_at_call 29; refine (rnumber_any hR 18446744073709551615 (pos + (enc 10 (foldS nn)).length) 0 HT.out).mono ?_; rintro e w6 ⟨rfl, hR6, hO6⟩; have hb6 := hb5.trans (hO6.below hrr hb5.size))
                go_roundw
                case rel => exact ⟨j + 1, by go_num, by omega, by rw [HNX.out]; exact hR6, hb6⟩
                case measure => simp [intOf]; omega
            by_cases q4 : wh = 4
            · have b0 : (wh == 0) = false := by simp [q4]
              have b1 : (wh == 1) = false := by simp [q4]
              have b2 : (wh == 2) = false := by simp [q4]
              have b4 : (wh == 4) = true := by simp [q4]
              have ei : item ⟨wh, vv, nn, ss⟩ = enc 10 ss.size ++ strBytes ss := by simp [item, q4]
              have hd : zs.drop pos = enc 10 (ss.size : Int) ++ (strBytes ss ++ t) := by rw [← List.append_assoc, ← ei]; exact HD.out
              have HT : Hid (countS zs pos 1 9223372036854775807 = ((ss.size : Int), ((enc 10 (ss.size : Int)).length : Int), 0)) := countS_enc zs pos ss.size _ (strBytes ss) t hd (strBytes_len ss) (by omega) (by omega)
              have HS : Hid ((zs.drop (pos + (enc 10 (ss.size : Int)).length)).take ss.size = strBytes ss) := by
                show _ = _
                rw [← List.drop_drop, hd, List.drop_left, ← strBytes_len ss, List.take_left]
              have HNX : Hid ((stAt ps (j + 1)).1.length = pos + (enc 10 (ss.size : Int)).length + ss.size) := by
                show _ = _
                have := HNL.out
                rw [ei, List.length_append, strBytes_len] at this
                omega
              clear q0 q1 q2 q4 ei HD HNL HGD hd
              go_wp2_with fail
              go_region_held3 (fun w' => w'.cell? ⟨b, off + j * 4 + 3, none⟩ = some (.string ss)) (first | assumption | go_keep)
                (first | (go_at_call 32; refine (rtext_eq 9223372036854775807 hR.drew (by decide) (by decide) ss.size (enc 10 (ss.size : Int)).length HT.out ss HS.out).mono ?_; rintro e w6 ⟨rfl, hR6, hO6⟩; have hcS := (World.cell?_of_block (a := ⟨b, off + j * 4 + 3, none⟩) (hO6.block b HBL.out HBR.out)).trans c3; have hb6 := (hb5.drew).trans (hO6.below hrr hb5.drew.size)))
              all_goals go_wp2
              all_goals go_roundw
              all_goals first
                | exact ⟨j + 1, by go_num, by omega, by rw [HNX.out]; exact hR6, hb6⟩
                | (simp [intOf]; omega)
            · have b0 : (wh == 0) = false := by simp [q0]
              have b1 : (wh == 1) = false := by simp [q1]
              have b2 : (wh == 2) = false := by simp [q2]
              have b4 : (wh == 4) = false := by simp [q4]
              have HNX : Hid ((stAt ps (j + 1)).1.length = pos) := by
                show _ = _
                have := HNL.out
                rw [show item ⟨wh, vv, nn, ss⟩ = [] by simp [item, q0, q1, q2, q4]] at this
                simpa using this
              clear q0 q1 q2 q4 HD HNL HGD
              go_wp2
              go_roundw
              case rel => exact ⟨j + 1, by go_num, by omega, by rw [HNX.out]; exact hR, hb5⟩
              case measure => simp [intOf]; omega
          · have hje : j = ps.length := by omega
            subst hje
            rw [HZE.out] at hR
            simp only at hR
            have HE : Hid (endS zs zs.length 0 = (0, 0)) := by show _ = _; rw [endS, if_neg (by simp), if_neg (by omega)]
            have HN : Hid _ := hR.len
            have hNl : (N4 : Int) - (zs.length : Int) = 0 := by have := HN.out; omega
            go_wp2_with (first
              | (go_at_call 33; refine (rend_eq hR 0 0 HE.out).mono ?_; rintro e w6 ⟨rfl, m6, rfl⟩)
              | (go_at_call 17; refine (num_any _ _).mono ?_; rintro e w' ⟨rfl, rfl⟩)
              | (go_at_call 34; refine (rleft_any (hR.drewN m6)).mono ?_; rintro e w7 ⟨rfl, m7, rfl⟩))
            go_ret
            exact ⟨by first | rfl | simp [hNl], drewN_below hb5 _⟩
      · have h4 : er = 4 := by omega
        subst h4
        go_wp2_with (first
          | (go_at_call 28; refine (wbytes_err hW (by decide)).mono ?_; rintro e w3 ⟨rfl, m3, rfl⟩)
          | (go_at_call 17; refine (num_any _ _).mono ?_; rintro e w' ⟨rfl, rfl⟩))
        go_ret
        exact ⟨rfl, drewN_below hb _⟩
end Go.Proofs.YtfngoffkmlalaaaDoor
