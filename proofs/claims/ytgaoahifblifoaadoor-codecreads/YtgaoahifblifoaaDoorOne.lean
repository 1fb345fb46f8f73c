import Derived.Test.YtgaoahifblifoaaDoorTake
namespace Go.Proofs.YtgaoahifblifoaaDoor
set_option linter.unusedVariables false
open Go.RowKit

theorem takeS_err {xs : List Int} (hb : isBytes xs) {pos : Nat} (hpos : pos ≤ xs.length) {most n : Int} {p : Nat} {e : Int} (h : takeS xs pos 0 most = (n, p, e)) (he : e ≠ 0) : n = 0 ∧ pos = p ∧ e ≠ 12 := by
  rw [takeS, if_neg (by simp)] at h
  by_cases h1 : (peekS xs pos most).2.2 ≠ 0
  · rw [if_pos h1] at h
    simp only [Prod.mk.injEq] at h
    obtain ⟨rfl, rfl, rfl⟩ := h
    refine ⟨rfl, rfl, ?_⟩
    obtain ⟨n1, s1, e1, hp⟩ : ∃ n s e, parse (xs.drop pos) = (n, s, e) := ⟨_, _, _, rfl⟩
    obtain ⟨hf, _⟩ := parse_facts (xs.drop pos) (isBytes_drop hb pos) n1 s1 e1 hp
    rw [peekS, hp]
    by_cases q1 : e1 = 0
    · subst q1
      rw [if_neg (by simp)]
      by_cases q2 : most < n1
      · rw [if_pos q2]; simp
      · rw [if_neg q2]; simp
    · rw [if_pos q1]
      show e1 ≠ 12
      omega
  · rw [if_neg h1] at h
    simp only [Prod.mk.injEq] at h
    exact absurd h.2.2.symm he
/-- A number that is read: its bytes are its one form. -/
theorem takeS_ok {xs : List Int} (hb : isBytes xs) {pos : Nat} (hpos : pos ≤ xs.length) {most n : Int} {p : Nat} (h : takeS xs pos 0 most = (n, p, 0)) : 0 ≤ n ∧ n ≤ most ∧ n ≤ 18446744073709551615 ∧ pos < p ∧ p ≤ xs.length ∧ xs.take p = xs.take pos ++ enc 10 n := by
  rw [takeS, if_neg (by simp)] at h
  obtain ⟨n1, s1, e1, hp⟩ : ∃ n s e, peekS xs pos most = (n, s, e) := ⟨_, _, _, rfl⟩
  obtain ⟨_, f2⟩ := peekS_facts xs hb pos hpos most n1 s1 e1 hp
  rw [hp] at h
  by_cases h1 : e1 = 0
  · subst h1
    rw [if_neg (by simp)] at h
    simp only [Prod.mk.injEq, and_true] at h
    obtain ⟨rfl, rfl⟩ := h
    obtain ⟨g1, g2, g3, g4, g5, g6, g7⟩ := f2 rfl
    obtain ⟨_, _, r, hr, hs⟩ := parse_back (xs.drop pos) (isBytes_drop hb pos) n1 s1 g7
    refine ⟨g4, g5, by omega, by omega, by omega, ?_⟩
    have e : s1.toNat = (enc 10 n1).length := by omega
    rw [e, List.take_add, hr, List.take_left]
  · rw [if_pos h1] at h
    simp only [Prod.mk.injEq] at h
    exact absurd h.2.2 h1

theorem WInv.drewN {w : World} {p q : Nat} {v : Value} {xs : List Int} {err : Int} (h : WInv w p q v xs err) (n : Nat) : WInv (w.drewN n) p q v xs err := h.still fun _ => rfl
theorem rend_eq {w : World} {r : Nat} {ao : Option Addr} {N cap : Nat} {xs : List Int} {pos : Nat} {err : Int} (h : RInv w r ao N cap xs pos err) (a b : Int) (he : endS xs pos err = (a, b)) :
    Calls Tryd.prog 33 #[.pointer (some ⟨r, 0, none⟩)] w fun x w' => x = .returned (.tuple #[.int .i64 a, .int .i64 b]) ∧ ∃ n, w' = w.drewN n := by
  have := rend_any h
  rw [he] at this
  exact this
theorem drewN_below {w w1 : World} {B : Nat} (h : Below B w w1) (n : Nat) : Below B w (w1.drewN n) := below_drewN h n
theorem wgrew_own {w w' : World} {q B : Nat} {v v' : Value} (h : WGrew w w' q v v') (hv : ∀ k, v.ownBlock = some k → B ≤ k) (hB : B ≤ w.heap.size) : ∀ k, v'.ownBlock = some k → B ≤ k := by
  intro k hk
  rcases h.moved with e | ⟨k', e, hk'⟩
  · exact hv k (e ▸ hk)
  · rw [hk] at e; have := Option.some.inj e; omega

set_option maxRecDepth 100000 in
set_option maxHeartbeats 1600000 in
theorem one_walk (bo : Option Addr) (cb : Nat) (ys : List Int) (w : World) (hm : Magic w) (hy : ys.length ≤ 140737488351232) (hs : RowAt w bo ys) (hnb : bo = none → cb = 0) :
    Calls Tryd.prog 7 #[.slice bo ys.length cb] w fun e w' => e = .returned (.bool true) ∧ Below w.heap.size w w' := by
  have HY : Hid (ys.length ≤ 140737488355328) := by show _ ≤ _; omega
  have HYB : Hid _ := hs.1
  go_enter Tryd.func7, Tryd.ntmps7
  go_wp2_with (first
    | (go_at_call 19; refine (alive_any w hm).mono ?_; rintro e w1 ⟨rfl, hb1⟩; have hs1 := hs.later hb1)
    | (go_at_call 22; refine (newreader_any bo ys.length cb ys w1 rfl HY.out hs1 hnb).mono ?_; rintro e w2 ⟨r, ao2, N2, c2, rfl, hR2, hr2, hb2⟩; have hb2' := hb1.trans (hb2.mono hb1.size); have hrr := Nat.le_trans hb1.size hr2)
    | (go_at_call 20; refine (newwriter_any w2).mono ?_; rintro e w' ⟨rfl, rfl⟩))
  have hW3 := winv_new w2
  have hb3 : Below w.heap.size w _ := hb2'.trans ((below_two w2 (.cells #[.slice none 0 0, .int .i64 0] 118) (.cells #[.pointer (some ⟨w2.heap.size, 0, none⟩)] 120)).mono hb2'.size)
  have hR3 := hR2.later (below_two w2 (.cells #[.slice none 0 0, .int .i64 0] 118) (.cells #[.pointer (some ⟨w2.heap.size, 0, none⟩)] 120))
  have hlen2 := hR2.len
  have hsz2 := hb2'.size
  go_loopw [5] (fun i wr => ∃ (j pos : Nat) (v : Value), i = .int .i64 j ∧ j ≤ pos ∧ pos ≤ ys.length ∧ RInv wr r ao2 N2 c2 ys pos 0 ∧ WInv wr (w2.heap.size + 1) w2.heap.size v (ys.take pos) 0 ∧ (∀ b o, ao2 = some ⟨b, o, none⟩ → some b ≠ v.ownBlock) ∧ (∀ k, v.ownBlock = some k → w.heap.size ≤ k) ∧ Below w.heap.size w wr) (fun i _ => ys.length - (intOf i).toNat)
  case atStart => exact ⟨0, 0, _, rfl, Nat.le_refl _, Nat.zero_le _, hR3, hW3, fun b o _ => by simp [Value.ownBlock], fun k hk => by simp [Value.ownBlock] at hk, hb3⟩
  case round =>
    obtain ⟨j, pos, v, rfl, hjp, hpl, hR, hW, hap, hv, hb⟩ := hrel
    clear hR3 hW3 hb3 hR2
    by_cases hlt : pos < ys.length
    · have hN1 : pos < N2 := by omega
      have hN2 : N2 ≤ 140737488355328 := by omega
      have hjl : j < ys.length := by omega
      have HNE : Hid (ys ≠ []) := fun e => by subst e; simp at hlt
      obtain ⟨n, p, e0, ht⟩ : ∃ n p e, takeS ys pos 0 18446744073709551615 = (n, p, e) := ⟨_, _, _, rfl⟩
      by_cases he : e0 = 0
      · subst he
        obtain ⟨hn0, hn1, hn2, hpp, hpy, htk⟩ := takeS_ok HYB.out hpl ht
        have HT : Hid _ := ht
        have HTK : Hid _ := htk
        have HTL : Hid ((ys.take pos).length ≤ 140737488355300) := by show _ ≤ _; simp; omega
        obtain ⟨a, b0, hend, hab⟩ : ∃ a b, endS ys p 0 = (a, b) ∧ (a = 0 ∨ a = 12) := by
          rw [endS, if_neg (by simp)]
          by_cases hp : p < ys.length
          · rw [if_pos hp]; exact ⟨_, _, rfl, .inr rfl⟩
          · rw [if_neg hp]; exact ⟨_, _, rfl, .inl rfl⟩
        have HE : Hid _ := hend
        have HL2 : Hid _ := hlen2
        clear ht htk hend hlen2 hs
        rcases hab with rfl | rfl
        ·
          go_wp2_with (first
            | (go_at_call 34; refine (rleft_any hR).mono ?_; rintro e w4 ⟨rfl, m4, rfl⟩)
            | (go_at_call 29; refine (rnumber_any (hR.drewN m4) n p 0 HT.out).mono ?_; rintro e w5 ⟨rfl, hR5, hO5⟩; have hW5 := (hW.drewN m4).only hO5 (rw_apart (hR.drewN m4) (hW.drewN m4)); have hb5 := (drewN_below hb m4).trans (hO5.below hrr (drewN_below hb m4).size))
            | (go_at_call 33; refine (rend_eq hR5 0 b0 HE.out).mono ?_; rintro e w6 ⟨rfl, m6, rfl⟩; have hR6 := hR5.drewN m6; have hW6 := hW5.drewN m6; have hb6 := drewN_below hb5 m6)
            | (go_at_call 17; refine (num_any _ _).mono ?_; rintro e w' ⟨rfl, rfl⟩)
            | (go_at_call 24; refine (number_any n hW6 hn0 hn2 HTL.out).mono ?_; rintro e w7 ⟨rfl, v7, hW7, hg7⟩; obtain ⟨hR7, hap7⟩ := hR6.wgrew hW6 hg7 HNE.out hap; have hb7 := hb6.trans (wgrew_below hg7 hb6.size hsz2 hv); have hv7 := wgrew_own hg7 hv hb6.size))
          go_roundw
          case rel => exact ⟨j + 1, p, v7, by go_num, by omega, by omega, hR7, by rw [HTK.out]; exact hW7, hap7, hv7, hb7⟩
          case measure => simp [intOf]; omega
        ·
          go_wp2_with (first
            | (go_at_call 34; refine (rleft_any hR).mono ?_; rintro e w4 ⟨rfl, m4, rfl⟩)
            | (go_at_call 29; refine (rnumber_any (hR.drewN m4) n p 0 HT.out).mono ?_; rintro e w5 ⟨rfl, hR5, hO5⟩; have hW5 := (hW.drewN m4).only hO5 (rw_apart (hR.drewN m4) (hW.drewN m4)); have hb5 := (drewN_below hb m4).trans (hO5.below hrr (drewN_below hb m4).size))
            | (go_at_call 33; refine (rend_eq hR5 12 b0 HE.out).mono ?_; rintro e w6 ⟨rfl, m6, rfl⟩; have hR6 := hR5.drewN m6; have hW6 := hW5.drewN m6; have hb6 := drewN_below hb5 m6)
            | (go_at_call 17; refine (num_any _ _).mono ?_; rintro e w' ⟨rfl, rfl⟩)
            | (go_at_call 24; refine (number_any n hW6 hn0 hn2 HTL.out).mono ?_; rintro e w7 ⟨rfl, v7, hW7, hg7⟩; obtain ⟨hR7, hap7⟩ := hR6.wgrew hW6 hg7 HNE.out hap; have hb7 := hb6.trans (wgrew_below hg7 hb6.size hsz2 hv); have hv7 := wgrew_own hg7 hv hb6.size))
          go_roundw
          case rel => exact ⟨j + 1, p, v7, by go_num, by omega, by omega, hR7, by rw [HTK.out]; exact hW7, hap7, hv7, hb7⟩
          case measure => simp [intOf]; omega
      · obtain ⟨rfl, rfl, h12⟩ := takeS_err HYB.out hpl ht he
        have HT : Hid _ := ht
        have HE : Hid (endS ys pos e0 = (e0, (pos : Int))) := by show _ = _; rw [endS, if_pos he]
        have hb0 : (e0 != 0) = true := by simpa using he
        have hb12 : (e0 != 12) = true := by simpa using h12
        have HL2 : Hid _ := hlen2
        clear ht he h12 hlen2 hs
        go_wp2_with (first
          | (go_at_call 34; refine (rleft_any hR).mono ?_; rintro e w4 ⟨rfl, m4, rfl⟩)
          | (go_at_call 29; refine (rnumber_any (hR.drewN m4) 0 pos e0 HT.out).mono ?_; rintro e w5 ⟨rfl, hR5, hO5⟩; have hb5 := (drewN_below hb m4).trans (hO5.below hrr (drewN_below hb m4).size))
          | (go_at_call 33; refine (rend_eq hR5 e0 pos HE.out).mono ?_; rintro e w6 ⟨rfl, m6, rfl⟩)
          | (go_at_call 17; refine (num_any _ _).mono ?_; rintro e w' ⟨rfl, rfl⟩))
        go_ret
        exact ⟨rfl, drewN_below hb5 _⟩
    · have hpe : pos = ys.length := by omega
      have HYT : Hid (ys.length ≤ 140737488355328) := HY.out
      by_cases hjl : j < ys.length
      · have hN1 : ¬ (0 : Int) < (N2 : Int) - pos := by omega
        have HW : Hid _ := hW
        have hW' : ∀ m, WInv (wr.drewN m) (w2.heap.size + 1) w2.heap.size v ys 0 := fun m => by have := hW.drewN m; rwa [hpe, List.take_length] at this
        have HW' : Hid _ := hW'
        have HL2 : Hid _ := hlen2
        clear hlen2 hpe hW'
        go_wp2_with (first
          | (go_at_call 34; refine (rleft_any hR).mono ?_; rintro e w4 ⟨rfl, m4, rfl⟩; have hW' := HW'.out m4; have hb' := drewN_below hb m4)
          | (go_at_call 28; refine (wbytes_at hW' HYT.out).mono ?_; rintro e w5 ⟨a5, N5, c5, rfl, ho5, hk5, hb5⟩; have hb5' := hb'.trans (hb5.mono hb'.size); have OL5 : Hid _ := own_len ho5; have hs5 := hs.later hb5')
          | (go_at_call 16; refine (same_true a5 bo N5 ys.length c5 cb ys w5 OL5.out.1 rfl HYT.out OL5.out.2.1 hs5).mono ?_; rintro e w6 ⟨rfl, hs6⟩; have hb6 := hb5'.trans (hs6 _)))
        go_ret
        exact ⟨rfl, hb6⟩
      · have hW' : WInv wr (w2.heap.size + 1) w2.heap.size v ys 0 := by have := hW; rwa [hpe, List.take_length] at this
        have hb' := hb
        have HL2 : Hid _ := hlen2
        clear hlen2 hpe
        go_wp2_with (first
          | (go_at_call 28; refine (wbytes_at hW' HYT.out).mono ?_; rintro e w5 ⟨a5, N5, c5, rfl, ho5, hk5, hb5⟩; have hb5' := hb'.trans (hb5.mono hb'.size); have OL5 : Hid _ := own_len ho5; have hs5 := hs.later hb5')
          | (go_at_call 16; refine (same_true a5 bo N5 ys.length c5 cb ys w5 OL5.out.1 rfl HYT.out OL5.out.2.1 hs5).mono ?_; rintro e w6 ⟨rfl, hs6⟩; have hb6 := hb5'.trans (hs6 _)))
        go_ret
        exact ⟨rfl, hb6⟩
end Go.Proofs.YtgaoahifblifoaaDoor
