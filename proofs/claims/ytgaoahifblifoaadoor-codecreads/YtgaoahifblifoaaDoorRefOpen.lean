import Derived.Test.YtgaoahifblifoaaDoorIntact
namespace Go.Proofs.YtgaoahifblifoaaDoor
set_option linter.unusedVariables false
open Go.RowKit

theorem sumBytes_join (s : Int) (h0 : 0 ≤ s) (h1 : s ≤ 4294967295) (a b c d : Int) (ha : 0 ≤ a ∧ a ≤ 255) (hb : 0 ≤ b ∧ b ≤ 255) (hc : 0 ≤ c ∧ c ≤ 255) (hd : 0 ≤ d ∧ d ≤ 255) : joinSum [a, b, c, d] = s ↔ (a = s / 16777216 ∧ b = s / 65536 % 256 ∧ c = s / 256 % 256 ∧ d = s % 256) := by
  simp only [joinSum, List.foldl_cons, List.foldl_nil]
  constructor
  · intro h; omega
  · rintro ⟨rfl, rfl, rfl, rfl⟩; omega

theorem wpList_own_append_n {ops : Array Oper} {rest : List Oper} {o : Oper} {a : Act} {Q : Exit → Act → World → Prop} {w : World} (hgd : o.guard = none) (s x : Operand)
    (ho : o.op = .call { callee := .builtin .append, args := #[s, x], argTypes := #[22, 22] })
    (v : Value) (xs : List Int) (hs : a.eval s = v) (h : Own w v xs) (ao : Option Addr) (N c : Nat) (news : List Int) (hN : N = news.length) (hx : a.eval x = .slice ao N c) (hr : RowAt w ao news) (hc : ao = none → c = 0) (hlen : xs.length + news.length ≤ 140737488355328)
    (hK : ∀ v' w', Own w' v' (xs ++ news) → Grew w w' v v' → wpList Tryd.prog ops Q rest (a.put o.dst v') w') : wpList Tryd.prog ops Q (o :: rest) a w := by
  subst hN
  exact wpList_own_append hgd s x ho v xs hs h ao c news hx hr hc hlen fun v' w' r1 r2 _ => hK v' w' r1 r2
theorem drop_four (xs : List Int) (t : Nat) (h : xs.length = t + 4) : xs.drop t = [xs.getD t 0, xs.getD (t + 1) 0, xs.getD (t + 2) 0, xs.getD (t + 3) 0] := by
  apply List.ext_getElem
  · simp; omega
  · intro i h1 h2
    simp at h2
    have hi : i = 0 ∨ i = 1 ∨ i = 2 ∨ i = 3 := by omega
    rcases hi with rfl | rfl | rfl | rfl <;> simp [List.getD, show t < xs.length by omega, show t + 1 < xs.length by omega, show t + 2 < xs.length by omega, show t + 3 < xs.length by omega]

set_option maxRecDepth 100000 in
set_option maxHeartbeats 4000000 in
theorem refopen_any (k : Int) (ao : Option Addr) (N cap : Nat) (xs : List Int) (w : World) (hN : N = xs.length) (hk0 : 0 ≤ k) (hk1 : k ≤ 255) (hl : xs.length ≤ 140737488355328) (hcap : xs.length ≤ cap) (hr : RowAt w ao xs) (hn : ao = none → cap = 0) :
    Calls Tryd.prog 13 #[.int .u8 k, .slice ao N cap] w (OpenEnds k xs w) := by
  subst hN
  have HB := headBytes_bytes k hk0 hk1
  go_enter Tryd.func13, Tryd.ntmps13
  go_wp2
  have HW0 : Below w.heap.size w (w.alloc (.cells #[.int .u8 103, .int .u8 116, .int .u8 114, .int .u8 k] 5)) := below_alloc w _
  have HH0 : RowAt (w.alloc (.cells #[.int .u8 103, .int .u8 116, .int .u8 114, .int .u8 k] 5)) (some ⟨w.heap.size, 0, none⟩) (headBytes k) := rowAt_new w 5 (headBytes k) (0, 0) HB
  go_loopw [8] (fun i wr => ∃ j : Nat, j ≤ 4 ∧ j ≤ xs.length ∧ i = .int .i64 j ∧ checkHead k xs = chk ((headBytes k).drop j) j (xs.drop j) ∧ RowAt wr (some ⟨w.heap.size, 0, none⟩) (headBytes k) ∧ Below w.heap.size w wr) (fun i _ => 4 - (intOf i).toNat)
  case atStart => exact ⟨0, by omega, by omega, rfl, rfl, HH0, HW0⟩
  case round =>
    obtain ⟨j, hj4, hjl, rfl, hp, hh, hb⟩ := hrel
    clear HH0 HW0
    have HP : Hid (checkHead k xs = chk ((headBytes k).drop j) j (xs.drop j)) := hp
    clear hp
    have hrr := hr.later hb
    by_cases hj : j < 4
    · have HHD : Hid ((headBytes k).drop j = (headBytes k).getD j 0 :: (headBytes k).drop (j + 1)) := by
        match j, hj with
        | 0, _ => rfl
        | 1, _ => rfl
        | 2, _ => rfl
        | 3, _ => rfl
      by_cases hlt : j < xs.length
      · obtain ⟨b, off, rfl, hc⟩ := hrr.2 (by intro h; subst h; simp at hlt)
        obtain ⟨b2, off2, he2, hc2⟩ := hh.2 (by simp [headBytes])
        cases he2
        have hck := hc j hlt
        have hck2 := hc2 j (by simpa [headBytes] using hj)
        rw [Nat.zero_add] at hck2
        have hbj := hr.1.at j
        have hhb := HB.at j
        have HD : Hid (xs.drop j = xs.getD j 0 :: xs.drop (j + 1)) := by
          show _ = _
          rw [List.drop_eq_getElem_cons hlt]; simp [List.getD, hlt]
        have HKH : Hid (RowAt wr (some ⟨w.heap.size, 0, none⟩) (headBytes k)) := hh
        clear hc hc2 hr hrr hh
        generalize (headBytes k).getD j 0 = h at *
        generalize xs.getD j 0 = c at *
        by_cases he : c = h
        · have het : (c != h) = false := by simp [he]
          have HE : Hid (c = h) := he
          clear he
          go_wp2
          go_quiet (fail)
          go_wp2
          go_roundw
          case rel => exact ⟨j + 1, by omega, by omega, by go_num, by rw [HP.out, HHD.out, HD.out, chk, if_pos HE.out], HKH.out.later (below_drewN (Below.refl _ _) _), below_drewN hb _⟩
          case measure => simp [intOf]; omega
        · have het : (c != h) = true := by simp [he]
          have FIN : Hid _ := fun w' => @openEnds_nil k xs w w' 14 j (by rw [openS, HP.out, HHD.out, HD.out, chk, if_neg he]; simp)
          clear he
          go_wp2
          go_quiet (fail)
          go_wp2
          go_ret3
          exact FIN.out _ (below_drewN hb _)
      · have FIN : Hid _ := fun w' => @openEnds_nil k xs w w' 11 xs.length (by rw [openS, HP.out, HHD.out, show xs.drop j = [] from List.drop_eq_nil_of_le (by omega), chk]; simp; omega)
        clear hr hrr hh
        go_wp2
        go_ret3
        exact FIN.out _ hb
    · obtain rfl : j = 4 := by omega
      have h4 : 4 ≤ xs.length := by omega
      have h1 : (checkHead k xs).1 = 0 := by rw [HP.out]; rfl
      clear HP
      obtain ⟨n, s, ep, hp⟩ : ∃ n s e, parse (xs.drop 4) = (n, s, e) := ⟨_, _, _, rfl⟩
      have hO : openS k xs = openS k xs := rfl
      conv at hO => rhs; rw [openS, if_neg (by simp [h1]), hp]
      obtain ⟨hpe, hpf⟩ := parse_facts (xs.drop 4) (isBytes_drop hr.1 4) n s ep hp
      have HP : Hid _ := hp
      clear hp h1 hh
      rcases hpe with rfl | rfl | rfl
      · conv at hO => rhs; rw [if_pos rfl]
        have FIN : Hid _ := fun w' => @openEnds_nil k xs w w' _ _ hO
        clear hO hpf
        go_wp2_with (go_at_call 45; refine (refnum_any ao xs.length cap 4 xs wr rfl hl h4 hrr n s 11 HP.out).mono ?_; rintro e w2 ⟨rfl, rfl⟩)
        go_ret3
        exact FIN.out _ hb
      · conv at hO => rhs; rw [if_neg (by simp), if_pos (by simp)]
        have FIN : Hid _ := fun w' => @openEnds_nil k xs w w' _ _ hO
        clear hO hpf
        go_wp2_with (go_at_call 45; refine (refnum_any ao xs.length cap 4 xs wr rfl hl h4 hrr n s 13 HP.out).mono ?_; rintro e w2 ⟨rfl, rfl⟩)
        go_ret3
        exact FIN.out _ hb
      · conv at hO => rhs; rw [if_neg (by simp), if_neg (by simp)]
        obtain ⟨hs1, hs2, hs3, hn1, hn2⟩ := hpf rfl
        clear hpf
        simp only [List.length_drop] at hs3
        by_cases hlong : 16777216 < n
        · conv at hO => rhs; rw [if_pos hlong]
          have FIN : Hid _ := fun w' => @openEnds_nil k xs w w' _ _ hO
          clear hO
          go_wp2_with (go_at_call 45; refine (refnum_any ao xs.length cap 4 xs wr rfl hl h4 hrr n s 0 HP.out).mono ?_; rintro e w2 ⟨rfl, rfl⟩)
          go_ret3
          exact FIN.out _ hb
        · conv at hO => rhs; rw [if_neg hlong]
          by_cases hshort : (xs.length : Int) < 4 + s + n + 4
          · conv at hO => rhs; rw [if_pos hshort]
            have FIN : Hid _ := fun w' => @openEnds_nil k xs w w' _ _ hO
            clear hO
            go_wp2_with (go_at_call 45; refine (refnum_any ao xs.length cap 4 xs wr rfl hl h4 hrr n s 0 HP.out).mono ?_; rintro e w2 ⟨rfl, rfl⟩)
            go_ret3
            exact FIN.out _ hb
          · conv at hO => rhs; rw [if_neg hshort]
            by_cases htail : 4 + s + n + 4 < (xs.length : Int)
            · conv at hO => rhs; rw [if_pos htail]
              have FIN : Hid _ := fun w' => @openEnds_nil k xs w w' _ _ hO
              clear hO
              go_wp2_with (go_at_call 45; refine (refnum_any ao xs.length cap 4 xs wr rfl hl h4 hrr n s 0 HP.out).mono ?_; rintro e w2 ⟨rfl, rfl⟩)
              go_ret3
              exact FIN.out _ hb
            · conv at hO => rhs; rw [if_neg htail]
              obtain ⟨b, off, rfl, hc⟩ := hrr.2 (by intro h; subst h; simp at h4)
              obtain ⟨n, rfl⟩ := Int.eq_ofNat_of_zero_le hn1
              obtain ⟨s, rfl⟩ := Int.eq_ofNat_of_zero_le (show 0 ≤ s by omega)
              have hT : (4 + (s : Int) + (n : Int)).toNat = 4 + s + n := by omega
              have hF : (4 + (s : Int)).toNat = 4 + s := by omega
              rw [hT, hF] at hO
              have HK2 : Hid (4 + s + n = (xs.take (4 + s + n)).length) := by show _ = _; simp; omega
              have HK4 : Hid ((xs.take (4 + s + n)).length ≤ 140737488355328) := by show _ ≤ _; simp; omega
              have hle : 4 + s + n + 4 ≤ xs.length := by omega
              have hge : xs.length ≤ 4 + s + n + 4 := by omega
              have hn3 : n ≤ 16777216 := by omega
              have hs4 : s ≤ 10 := by omega
              clear hT hF hshort htail hlong hs1 hs2 hs3 hn1 hn2
              have x0 := hc (4 + s + n) (by omega)
              have x1 := hc (4 + s + n + 1) (by omega)
              have x2 := hc (4 + s + n + 2) (by omega)
              have x3 := hc (4 + s + n + 3) (by omega)
              have y0 := hr.1.at (4 + s + n)
              have y1 := hr.1.at (4 + s + n + 1)
              have y2 := hr.1.at (4 + s + n + 2)
              have y3 := hr.1.at (4 + s + n + 3)
              have hd := drop_four xs (4 + s + n) (by omega)
              have hab := adler_bd (xs.take (4 + s + n))
              have HJ : Hid (joinSum (xs.drop (4 + s + n)) = adler (xs.take (4 + s + n)) ↔ (xs.getD (4 + s + n) 0 = adler (xs.take (4 + s + n)) / 16777216 ∧ xs.getD (4 + s + n + 1) 0 = adler (xs.take (4 + s + n)) / 65536 % 256 ∧ xs.getD (4 + s + n + 2) 0 = adler (xs.take (4 + s + n)) / 256 % 256 ∧ xs.getD (4 + s + n + 3) 0 = adler (xs.take (4 + s + n)) % 256)) := by
                show _ ↔ _
                rw [hd]; exact sumBytes_join (adler (xs.take (4 + s + n))) hab.1 hab.2 _ _ _ _ y0 y1 y2 y3
              have HO : Hid _ := hO
              clear hO hd hc hr
              generalize xs.getD (4 + s + n) 0 = d0 at *
              generalize xs.getD (4 + s + n + 1) 0 = d1 at *
              generalize xs.getD (4 + s + n + 2) 0 = d2 at *
              generalize xs.getD (4 + s + n + 3) 0 = d3 at *
              by_cases z0 : d0 = adler (xs.take (4 + s + n)) / 16777216
              · by_cases z1 : d1 = adler (xs.take (4 + s + n)) / 65536 % 256
                · by_cases z2 : d2 = adler (xs.take (4 + s + n)) / 256 % 256
                  · by_cases z3 : d3 = adler (xs.take (4 + s + n)) % 256
                    · have v0 : (d0 != adler (xs.take (4 + s + n)) / 16777216) = false := by simp [z0]
                      have v1 : (d1 != adler (xs.take (4 + s + n)) / 65536 % 256) = false := by simp [z1]
                      have v2 : (d2 != adler (xs.take (4 + s + n)) / 256 % 256) = false := by simp [z2]
                      have v3 : (d3 != adler (xs.take (4 + s + n)) % 256) = false := by simp [z3]
                      have HZ : Hid _ := HO.out.trans (if_neg (by simp [HJ.out.2 ⟨z0, z1, z2, z3⟩]))
                      have HK5 : Hid (4 + s + n - (4 + s) = ((xs.take (4 + s + n)).drop (4 + s)).length) := by show _ = _; simp; omega
                      have HK6 : Hid (([] : List Int).length + ((xs.take (4 + s + n)).drop (4 + s)).length ≤ 140737488355328) := by show _ ≤ _; simp; omega
                      clear z0 z1 z2 z3 HO HJ
                      go_wp2_with (first | (go_at_call 45; refine (refnum_any (some ⟨b, off, none⟩) xs.length cap 4 xs wr rfl hl h4 hrr n s 0 HP.out).mono ?_; rintro e w2 ⟨rfl, rfl⟩) | (go_at_call 15; refine (refsum_at (some ⟨b, off, none⟩) (4 + s + n) cap (xs.take (4 + s + n)) wr HK2.out HK4.out (hrr.take (4 + s + n))).mono ?_; rintro e w3 ⟨rfl, rfl⟩) | (at_builtin; (refine wpList_own_append_n rfl (.tmp 115) (.tmp 119) rfl _ [] rfl (Own.nil wr) _ (4 + s + n - (4 + s)) _ ((xs.take (4 + s + n)).drop (4 + s)) HK5.out rfl ((hrr.take (4 + s + n)).drop (4 + s)) no_nil HK6.out ?_); intro v5 w5 ho5 hg5; obtain ⟨hB5, hv5⟩ := grew_new hb (nil_own _) hg5))
                      go_ret3
                      exact ⟨_, by rw [HZ.out]; rfl, by rw [HZ.out]; exact ho5, hv5, hB5⟩
                    · have v0 : (d0 != adler (xs.take (4 + s + n)) / 16777216) = false := by simp [z0]
                      have v1 : (d1 != adler (xs.take (4 + s + n)) / 65536 % 256) = false := by simp [z1]
                      have v2 : (d2 != adler (xs.take (4 + s + n)) / 256 % 256) = false := by simp [z2]
                      have v3 : (d3 != adler (xs.take (4 + s + n)) % 256) = true := by simp [z3]
                      have FIN : Hid _ := fun w' => @openEnds_nil k xs w w' _ _ (HO.out.trans (if_pos fun q => z3 ((HJ.out.1 q).2.2.2)))
                      clear z0 z1 z2 z3 HO HJ
                      go_wp2_with (first | (go_at_call 45; refine (refnum_any (some ⟨b, off, none⟩) xs.length cap 4 xs wr rfl hl h4 hrr n s 0 HP.out).mono ?_; rintro e w2 ⟨rfl, rfl⟩) | (go_at_call 15; refine (refsum_at (some ⟨b, off, none⟩) (4 + s + n) cap (xs.take (4 + s + n)) wr HK2.out HK4.out (hrr.take (4 + s + n))).mono ?_; rintro e w3 ⟨rfl, rfl⟩))
                      go_ret3
                      exact FIN.out _ hb
                  · have v0 : (d0 != adler (xs.take (4 + s + n)) / 16777216) = false := by simp [z0]
                    have v1 : (d1 != adler (xs.take (4 + s + n)) / 65536 % 256) = false := by simp [z1]
                    have v2 : (d2 != adler (xs.take (4 + s + n)) / 256 % 256) = true := by simp [z2]
                    have FIN : Hid _ := fun w' => @openEnds_nil k xs w w' _ _ (HO.out.trans (if_pos fun q => z2 ((HJ.out.1 q).2.2.1)))
                    clear z0 z1 z2 HO HJ
                    go_wp2_with (first | (go_at_call 45; refine (refnum_any (some ⟨b, off, none⟩) xs.length cap 4 xs wr rfl hl h4 hrr n s 0 HP.out).mono ?_; rintro e w2 ⟨rfl, rfl⟩) | (go_at_call 15; refine (refsum_at (some ⟨b, off, none⟩) (4 + s + n) cap (xs.take (4 + s + n)) wr HK2.out HK4.out (hrr.take (4 + s + n))).mono ?_; rintro e w3 ⟨rfl, rfl⟩))
                    go_ret3
                    exact FIN.out _ hb
                · have v0 : (d0 != adler (xs.take (4 + s + n)) / 16777216) = false := by simp [z0]
                  have v1 : (d1 != adler (xs.take (4 + s + n)) / 65536 % 256) = true := by simp [z1]
                  have FIN : Hid _ := fun w' => @openEnds_nil k xs w w' _ _ (HO.out.trans (if_pos fun q => z1 ((HJ.out.1 q).2.1)))
                  clear z0 z1 HO HJ
                  go_wp2_with (first | (go_at_call 45; refine (refnum_any (some ⟨b, off, none⟩) xs.length cap 4 xs wr rfl hl h4 hrr n s 0 HP.out).mono ?_; rintro e w2 ⟨rfl, rfl⟩) | (go_at_call 15; refine (refsum_at (some ⟨b, off, none⟩) (4 + s + n) cap (xs.take (4 + s + n)) wr HK2.out HK4.out (hrr.take (4 + s + n))).mono ?_; rintro e w3 ⟨rfl, rfl⟩))
                  go_ret3
                  exact FIN.out _ hb
              · have v0 : (d0 != adler (xs.take (4 + s + n)) / 16777216) = true := by simp [z0]
                have FIN : Hid _ := fun w' => @openEnds_nil k xs w w' _ _ (HO.out.trans (if_pos fun q => z0 ((HJ.out.1 q).1)))
                clear z0 HO HJ
                go_wp2_with (first | (go_at_call 45; refine (refnum_any (some ⟨b, off, none⟩) xs.length cap 4 xs wr rfl hl h4 hrr n s 0 HP.out).mono ?_; rintro e w2 ⟨rfl, rfl⟩) | (go_at_call 15; refine (refsum_at (some ⟨b, off, none⟩) (4 + s + n) cap (xs.take (4 + s + n)) wr HK2.out HK4.out (hrr.take (4 + s + n))).mono ?_; rintro e w3 ⟨rfl, rfl⟩))
                go_ret3
                exact FIN.out _ hb
end Go.Proofs.YtgaoahifblifoaaDoor
