import Derived.Test.YtfngoffkmlalaaaDoorCanon
namespace Go.Proofs.YtfngoffkmlalaaaDoor
set_option linter.unusedVariables false
open Go.RowKit

set_option maxRecDepth 100000 in
set_option maxHeartbeats 800000 in
theorem sealed_err (k : Int) (ao bo : Option Addr) (ca cb : Nat) (xs ys : List Int) (w : World) (hm : Magic w) (hk0 : 0 ≤ k) (hk1 : k ≤ 255) (hx : xs.length ≤ 140737488351232) (hy : ys.length ≤ 140737488351232) (hr : RowAt w ao xs) (hs : RowAt w bo ys) (hna : ao = none → ca = 0) (hnb : bo = none → cb = 0) (hca : xs.length ≤ ca) (hcb : ys.length ≤ cb) (hlen : xs.length ≤ 16777216) (er at' : Int) (ho : openS k ys = ([], er, at')) (hne : er ≠ 0) (h0 : 0 ≤ at') (h1 : at' ≤ ys.length) :
    Calls Tryd.prog 8 #[.int .u8 k, .slice ao xs.length ca, .slice bo ys.length cb] w fun e w' => e = .returned (.bool true) ∧ Below w.heap.size w w' := by
  have HF1 : Hid _ := open_frame k xs hlen
  have HF2 : Hid (openS ((k + 1) % 256) (frame k xs) = ([], 14, 3)) := open_other k _ xs (by omega)
  have HL : Hid ((frame k xs).length ≤ 140737488355328) := by show _ ≤ _; have := enc_len 10 (xs.length : Int); simp [frame, lead, headBytes, sumBytes]; omega
  have HX : Hid (xs.length ≤ 140737488355328) := by show _ ≤ _; omega
  have HY : Hid (ys.length ≤ 140737488355328) := by show _ ≤ _; omega
  have HK : Hid (0 ≤ (k + 1) % 256 ∧ (k + 1) % 256 ≤ 255) := by show _ ∧ _; omega
  have HO : Hid _ := ho
  have hneb : (er != 0) = true := by simpa using hne
  clear ho hne
  go_enter Tryd.func8, Tryd.ntmps8
  go_wp2_with (first
    | (go_at_call 19; refine (alive_any w hm).mono ?_; rintro e w1 ⟨rfl, hb1⟩; have hr1 := hr.later hb1; have hs1 := hs.later hb1; have hm1 := hm.later hb1 hm.lt)
    | (go_at_call 9; (with_reducible refine (seal_at k ao xs.length ca xs w1 rfl hk0 hk1 hlen hm1 hr1 hna).mono ?_); rintro e w2 ⟨g2, N2, c2, rfl, ho2, hg2, hb2⟩; have hb2' := hb1.trans (hb2.mono hb1.size); have hm2 := hm.later hb2' hm.lt; have OL2 : Hid _ := own_len ho2; have OC2 : Hid _ := own_cap ho2)
    | (go_at_call 17; refine (num_any _ _).mono ?_; rintro e w' ⟨rfl, rfl⟩)
    | (go_at_call 12; (with_reducible refine (open_eq k (some ⟨g2, 0, none⟩) N2 c2 (frame k xs) w2 xs 0 0 HF1.out OL2.out.1 hk0 hk1 HL.out OC2.out hm2 OL2.out.2.1).mono ?_); rintro e w3 ⟨a3, N3, c3, rfl, ho3, hk3, hb3⟩; have hb3' := hb2'.trans (hb3.mono hb2'.size); have hm3 := hm.later hb3' hm.lt; have ho23 := ho2.later hb3; have OL23 : Hid _ := own_len ho23)
    | (go_at_call 12; (with_reducible refine (open_eq ((k + 1) % 256) (some ⟨g2, 0, none⟩) N2 c2 (frame k xs) w3 [] 14 3 HF2.out OL23.out.1 HK.out.1 HK.out.2 HL.out OC2.out hm3 OL23.out.2.1).mono ?_); rintro e w4 ⟨a4, N4, c4, rfl, ho4, hk4, hb4⟩; have hb4' := hb3'.trans (hb4.mono hb3'.size); have hm4 := hm.later hb4' hm.lt; have OL34 : Hid _ := own_len (ho3.later hb4); have hr4 := hr.later hb4')
    | (go_at_call 16; (with_reducible refine (same_true a3 ao N3 xs.length c3 ca xs w4 OL34.out.1 rfl HX.out OL34.out.2.1 hr4).mono ?_); rintro e w5 ⟨rfl, hs5⟩; have hb5' := hb4'.trans (hs5 _); have hm5 := hm.later hb5' hm.lt; have hs6 := hs.later hb5')
    | (go_at_call 12; (with_reducible refine (open_eq k bo ys.length cb ys w5 [] er at' HO.out rfl hk0 hk1 HY.out hcb hm5 hs6).mono ?_); rintro e w6 ⟨a6, N6, c6, rfl, ho6, hk6, hb6⟩; obtain rfl : N6 = 0 := (own_len ho6).1; have hb6' := hb5'.trans (hb6.mono hb5'.size)))
  go_ret
  exact ⟨rfl, hb6'⟩

set_option maxRecDepth 100000 in
set_option maxHeartbeats 800000 in
theorem sealed_ok (k : Int) (ao bo : Option Addr) (ca cb : Nat) (xs ys : List Int) (w : World) (hm : Magic w) (hk0 : 0 ≤ k) (hk1 : k ≤ 255) (hx : xs.length ≤ 140737488351232) (hy : ys.length ≤ 140737488351232) (hr : RowAt w ao xs) (hs : RowAt w bo ys) (hna : ao = none → ca = 0) (hnb : bo = none → cb = 0) (hca : xs.length ≤ ca) (hcb : ys.length ≤ cb) (hlen : xs.length ≤ 16777216) (zs : List Int) (ho : openS k ys = (zs, 0, 0)) (hfr : frame k zs = ys) (hzl : zs.length ≤ 16777216) :
    Calls Tryd.prog 8 #[.int .u8 k, .slice ao xs.length ca, .slice bo ys.length cb] w fun e w' => e = .returned (.bool true) ∧ Below w.heap.size w w' := by
  have HF1 : Hid _ := open_frame k xs hlen
  have HF2 : Hid (openS ((k + 1) % 256) (frame k xs) = ([], 14, 3)) := open_other k _ xs (by omega)
  have HL : Hid ((frame k xs).length ≤ 140737488355328) := by show _ ≤ _; have := enc_len 10 (xs.length : Int); simp [frame, lead, headBytes, sumBytes]; omega
  have HX : Hid (xs.length ≤ 140737488355328) := by show _ ≤ _; omega
  have HY : Hid (ys.length ≤ 140737488355328) := by show _ ≤ _; omega
  have HK : Hid (0 ≤ (k + 1) % 256 ∧ (k + 1) % 256 ≤ 255) := by show _ ∧ _; omega
  have HO : Hid _ := ho
  have HFR : Hid _ := hfr
  have HZ : Hid _ := hzl
  clear ho hfr hzl
  go_enter Tryd.func8, Tryd.ntmps8
  go_wp2_with (first
    | (go_at_call 19; refine (alive_any w hm).mono ?_; rintro e w1 ⟨rfl, hb1⟩; have hr1 := hr.later hb1; have hs1 := hs.later hb1; have hm1 := hm.later hb1 hm.lt)
    | (go_at_call 9; (with_reducible refine (seal_at k ao xs.length ca xs w1 rfl hk0 hk1 hlen hm1 hr1 hna).mono ?_); rintro e w2 ⟨g2, N2, c2, rfl, ho2, hg2, hb2⟩; have hb2' := hb1.trans (hb2.mono hb1.size); have hm2 := hm.later hb2' hm.lt; have OL2 : Hid _ := own_len ho2; have OC2 : Hid _ := own_cap ho2)
    | (go_at_call 17; refine (num_any _ _).mono ?_; rintro e w' ⟨rfl, rfl⟩)
    | (go_at_call 12; (with_reducible refine (open_eq k (some ⟨g2, 0, none⟩) N2 c2 (frame k xs) w2 xs 0 0 HF1.out OL2.out.1 hk0 hk1 HL.out OC2.out hm2 OL2.out.2.1).mono ?_); rintro e w3 ⟨a3, N3, c3, rfl, ho3, hk3, hb3⟩; have hb3' := hb2'.trans (hb3.mono hb2'.size); have hm3 := hm.later hb3' hm.lt; have ho23 := ho2.later hb3; have OL23 : Hid _ := own_len ho23)
    | (go_at_call 12; (with_reducible refine (open_eq ((k + 1) % 256) (some ⟨g2, 0, none⟩) N2 c2 (frame k xs) w3 [] 14 3 HF2.out OL23.out.1 HK.out.1 HK.out.2 HL.out OC2.out hm3 OL23.out.2.1).mono ?_); rintro e w4 ⟨a4, N4, c4, rfl, ho4, hk4, hb4⟩; have hb4' := hb3'.trans (hb4.mono hb3'.size); have hm4 := hm.later hb4' hm.lt; have OL34 : Hid _ := own_len (ho3.later hb4); have hr4 := hr.later hb4')
    | (go_at_call 16; (with_reducible refine (same_true a3 ao N3 xs.length c3 ca xs w4 OL34.out.1 rfl HX.out OL34.out.2.1 hr4).mono ?_); rintro e w5 ⟨rfl, hs5⟩; have hb5' := hb4'.trans (hs5 _); have hm5 := hm.later hb5' hm.lt; have hs6 := hs.later hb5')
    | (go_at_call 12; (with_reducible refine (open_eq k bo ys.length cb ys w5 zs 0 0 HO.out rfl hk0 hk1 HY.out hcb hm5 hs6).mono ?_); rintro e w6 ⟨a6, N6, c6, rfl, ho6, hk6, hb6⟩; have hb6' := hb5'.trans (hb6.mono hb5'.size); have hm6 := hm.later hb6' hm.lt; have OL6 : Hid _ := own_len ho6)
    | (go_at_call 9; (with_reducible refine (seal_at k a6 N6 c6 zs w6 OL6.out.1 hk0 hk1 HZ.out hm6 OL6.out.2.1 OL6.out.2.2).mono ?_); rintro e w7 ⟨g7, N7, c7, rfl, ho7, hg7, hb7⟩; have hb7' := hb6'.trans (hb7.mono hb6'.size); rw [HFR.out] at ho7; have OL7 : Hid _ := own_len ho7; have hs7 := hs.later hb7')
    | (go_at_call 16; (with_reducible refine (same_true (some ⟨g7, 0, none⟩) bo N7 ys.length c7 cb ys w7 OL7.out.1 rfl HY.out OL7.out.2.1 hs7).mono ?_); rintro e w8 ⟨rfl, hs8⟩; have hb8' := hb7'.trans (hs8 _)))
  go_ret
  exact ⟨rfl, hb8'⟩

set_option maxRecDepth 100000 in
set_option maxHeartbeats 800000 in
theorem sealed_long_err (k : Int) (ao bo : Option Addr) (ca cb : Nat) (xs ys : List Int) (w : World) (hm : Magic w) (hk0 : 0 ≤ k) (hk1 : k ≤ 255) (hx : xs.length ≤ 140737488351232) (hy : ys.length ≤ 140737488351232) (hr : RowAt w ao xs) (hs : RowAt w bo ys) (hna : ao = none → ca = 0) (hnb : bo = none → cb = 0) (hca : xs.length ≤ ca) (hcb : ys.length ≤ cb) (hlen : 16777216 < xs.length) (er at' : Int) (ho : openS k ys = ([], er, at')) (hne : er ≠ 0) (h0 : 0 ≤ at') (h1 : at' ≤ ys.length) :
    Calls Tryd.prog 8 #[.int .u8 k, .slice ao xs.length ca, .slice bo ys.length cb] w fun e w' => e = .returned (.bool true) ∧ Below w.heap.size w w' := by
  have HX : Hid (xs.length ≤ 140737488355328) := by show _ ≤ _; omega
  have HY : Hid (ys.length ≤ 140737488355328) := by show _ ≤ _; omega
  have HK : Hid (0 ≤ (k + 1) % 256 ∧ (k + 1) % 256 ≤ 255) := by show _ ∧ _; omega
  have HO : Hid _ := ho
  have hneb : (er != 0) = true := by simpa using hne
  clear ho hne
  go_enter Tryd.func8, Tryd.ntmps8
  go_wp2_with (first
    | (go_at_call 19; refine (alive_any w hm).mono ?_; rintro e w1 ⟨rfl, hb1⟩; have hr1 := hr.later hb1; have hs1 := hs.later hb1; have hm1 := hm.later hb1 hm.lt)
    | (go_at_call 9; (with_reducible refine (seal_long k ao ca xs.length w1 HX.out hlen).mono ?_); rintro e w5 ⟨rfl, rfl⟩; have hb5' := hb1; have hm5 := hm1; have hs6 := hs1)
    | (go_at_call 17; refine (num_any _ _).mono ?_; rintro e w' ⟨rfl, rfl⟩)
    | (go_at_call 12; (with_reducible refine (open_eq k bo ys.length cb ys w1 [] er at' HO.out rfl hk0 hk1 HY.out hcb hm5 hs6).mono ?_); rintro e w6 ⟨a6, N6, c6, rfl, ho6, hk6, hb6⟩; obtain rfl : N6 = 0 := (own_len ho6).1; have hb6' := hb5'.trans (hb6.mono hb5'.size)))
  go_ret
  exact ⟨rfl, hb6'⟩

set_option maxRecDepth 100000 in
set_option maxHeartbeats 800000 in
theorem sealed_long_ok (k : Int) (ao bo : Option Addr) (ca cb : Nat) (xs ys : List Int) (w : World) (hm : Magic w) (hk0 : 0 ≤ k) (hk1 : k ≤ 255) (hx : xs.length ≤ 140737488351232) (hy : ys.length ≤ 140737488351232) (hr : RowAt w ao xs) (hs : RowAt w bo ys) (hna : ao = none → ca = 0) (hnb : bo = none → cb = 0) (hca : xs.length ≤ ca) (hcb : ys.length ≤ cb) (hlen : 16777216 < xs.length) (zs : List Int) (ho : openS k ys = (zs, 0, 0)) (hfr : frame k zs = ys) (hzl : zs.length ≤ 16777216) :
    Calls Tryd.prog 8 #[.int .u8 k, .slice ao xs.length ca, .slice bo ys.length cb] w fun e w' => e = .returned (.bool true) ∧ Below w.heap.size w w' := by
  have HX : Hid (xs.length ≤ 140737488355328) := by show _ ≤ _; omega
  have HY : Hid (ys.length ≤ 140737488355328) := by show _ ≤ _; omega
  have HK : Hid (0 ≤ (k + 1) % 256 ∧ (k + 1) % 256 ≤ 255) := by show _ ∧ _; omega
  have HO : Hid _ := ho
  have HFR : Hid _ := hfr
  have HZ : Hid _ := hzl
  clear ho hfr hzl
  go_enter Tryd.func8, Tryd.ntmps8
  go_wp2_with (first
    | (go_at_call 19; refine (alive_any w hm).mono ?_; rintro e w1 ⟨rfl, hb1⟩; have hr1 := hr.later hb1; have hs1 := hs.later hb1; have hm1 := hm.later hb1 hm.lt)
    | (go_at_call 9; (with_reducible refine (seal_long k ao ca xs.length w1 HX.out hlen).mono ?_); rintro e w5 ⟨rfl, rfl⟩; have hb5' := hb1; have hm5 := hm1; have hs6 := hs1)
    | (go_at_call 17; refine (num_any _ _).mono ?_; rintro e w' ⟨rfl, rfl⟩)
    | (go_at_call 12; (with_reducible refine (open_eq k bo ys.length cb ys w1 zs 0 0 HO.out rfl hk0 hk1 HY.out hcb hm5 hs6).mono ?_); rintro e w6 ⟨a6, N6, c6, rfl, ho6, hk6, hb6⟩; have hb6' := hb5'.trans (hb6.mono hb5'.size); have hm6 := hm.later hb6' hm.lt; have OL6 : Hid _ := own_len ho6)
    | (go_at_call 9; (with_reducible refine (seal_at k a6 N6 c6 zs w6 OL6.out.1 hk0 hk1 HZ.out hm6 OL6.out.2.1 OL6.out.2.2).mono ?_); rintro e w7 ⟨g7, N7, c7, rfl, ho7, hg7, hb7⟩; have hb7' := hb6'.trans (hb7.mono hb6'.size); rw [HFR.out] at ho7; have OL7 : Hid _ := own_len ho7; have hs7 := hs.later hb7')
    | (go_at_call 16; (with_reducible refine (same_true (some ⟨g7, 0, none⟩) bo N7 ys.length c7 cb ys w7 OL7.out.1 rfl HY.out OL7.out.2.1 hs7).mono ?_); rintro e w8 ⟨rfl, hs8⟩; have hb8' := hb7'.trans (hs8 _)))
  go_ret
  exact ⟨rfl, hb8'⟩

theorem sealed_walk (k : Int) (ao bo : Option Addr) (ca cb : Nat) (xs ys : List Int) (w : World) (hm : Magic w) (hk0 : 0 ≤ k) (hk1 : k ≤ 255) (hx : xs.length ≤ 140737488351232) (hy : ys.length ≤ 140737488351232) (hr : RowAt w ao xs) (hs : RowAt w bo ys) (hna : ao = none → ca = 0) (hnb : bo = none → cb = 0) (hca : xs.length ≤ ca) (hcb : ys.length ≤ cb) :
    Calls Tryd.prog 8 #[.int .u8 k, .slice ao xs.length ca, .slice bo ys.length cb] w fun e w' => e = .returned (.bool true) ∧ Below w.heap.size w w' := by
  by_cases he : (openS k ys).2.1 = 0
  · obtain ⟨zs, er, at', ho⟩ : ∃ zs er at', openS k ys = (zs, er, at') := ⟨_, _, _, rfl⟩
    rw [ho] at he
    simp only at he
    subst he
    obtain ⟨hf, hl, hb, rfl⟩ := frame_open k ys hs.1 zs at' ho
    by_cases hlen : xs.length ≤ 16777216
    · exact sealed_ok k ao bo ca cb xs ys w hm hk0 hk1 hx hy hr hs hna hnb hca hcb hlen zs ho hf hl
    · exact sealed_long_ok k ao bo ca cb xs ys w hm hk0 hk1 hx hy hr hs hna hnb hca hcb (by omega) zs ho hf hl
  · obtain ⟨h1, h2, h3⟩ := open_err k ys hs.1 he
    have ho : openS k ys = ([], (openS k ys).2.1, (openS k ys).2.2) := Prod.ext h1 rfl
    by_cases hlen : xs.length ≤ 16777216
    · exact sealed_err k ao bo ca cb xs ys w hm hk0 hk1 hx hy hr hs hna hnb hca hcb hlen _ _ ho he h2 h3
    · exact sealed_long_err k ao bo ca cb xs ys w hm hk0 hk1 hx hy hr hs hna hnb hca hcb (by omega) _ _ ho he h2 h3
end Go.Proofs.YtfngoffkmlalaaaDoor
