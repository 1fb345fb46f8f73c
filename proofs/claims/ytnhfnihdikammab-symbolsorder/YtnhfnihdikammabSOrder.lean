import Derived.Test.YtnhfnihdikammabSDenseP
namespace Go.Proofs.Ytnhfnihdikammab
set_option linter.unusedVariables false
open Go.RowKit

theorem symCmp_bd (k1 n1 k2 n2 : Int) : -1 ≤ symCmp k1 n1 k2 n2 ∧ symCmp k1 n1 k2 n2 ≤ 1 := by
  unfold symCmp cmpS
  repeat' split
  all_goals omega
theorem symCmp_rev (k1 n1 k2 n2 : Int) : symCmp k2 n2 k1 n1 = - symCmp k1 n1 k2 n2 := by
  unfold symCmp cmpS
  repeat' split
  all_goals omega
theorem symCmp_zero (k1 n1 k2 n2 : Int) : symCmp k1 n1 k2 n2 = 0 ↔ k1 = k2 ∧ n1 = n2 := by
  unfold symCmp cmpS
  repeat' split
  all_goals omega
theorem symCmp_less (k1 n1 k2 n2 : Int) : symCmp k1 n1 k2 n2 = -1 ↔ k1 < k2 ∨ k1 = k2 ∧ n1 < n2 := by
  unfold symCmp cmpS
  repeat' split
  all_goals omega
theorem symCmp_more (k1 n1 k2 n2 : Int) : symCmp k1 n1 k2 n2 = 1 ↔ k2 < k1 ∨ k1 = k2 ∧ n2 < n1 := by
  unfold symCmp cmpS
  repeat' split
  all_goals omega
theorem symCmp_trans (k1 n1 k2 n2 k3 n3 : Int) (h : symCmp k1 n1 k2 n2 = symCmp k2 n2 k3 n3) : symCmp k1 n1 k3 n3 = symCmp k1 n1 k2 n2 := by
  have b := symCmp_bd k1 n1 k2 n2
  have l1 := symCmp_less k1 n1 k2 n2
  have l2 := symCmp_less k2 n2 k3 n3
  have l3 := symCmp_less k1 n1 k3 n3
  have z1 := symCmp_zero k1 n1 k2 n2
  have z2 := symCmp_zero k2 n2 k3 n3
  have z3 := symCmp_zero k1 n1 k3 n3
  have m1 := symCmp_more k1 n1 k2 n2
  have m2 := symCmp_more k2 n2 k3 n3
  have m3 := symCmp_more k1 n1 k3 n3
  have c : symCmp k1 n1 k2 n2 = -1 ∨ symCmp k1 n1 k2 n2 = 0 ∨ symCmp k1 n1 k2 n2 = 1 := by omega
  rcases c with c | c | c
  · rw [c]; apply l3.2; have := l1.1 c; have := l2.1 (by omega); omega
  · rw [c]; apply z3.2; have := z1.1 c; have := z2.1 (by omega); omega
  · rw [c]; apply m3.2; have := m1.1 c; have := m2.1 (by omega); omega
theorem denseF_ok {T k n m : Int} (h : denseF T k n = (m, 0)) : 0 ≤ T ∧ (k = 1 ∧ 0 ≤ n ∧ n ≤ T ∧ m = n ∨ k = 2 ∧ 0 ≤ n ∧ m = T + 1 + n) := by
  unfold denseF at h
  repeat' split at h
  all_goals simp at h
  all_goals omega
theorem denseF_lt {T k1 n1 k2 n2 m m' : Int} (h1 : denseF T k1 n1 = (m, 0)) (h2 : denseF T k2 n2 = (m', 0)) : (m < m' ↔ symCmp k1 n1 k2 n2 < 0) ∧ (m = m' ↔ symCmp k1 n1 k2 n2 = 0) := by
  have b := symCmp_bd k1 n1 k2 n2
  have l1 := symCmp_less k1 n1 k2 n2
  have z1 := symCmp_zero k1 n1 k2 n2
  have d1 := denseF_ok h1
  have d2 := denseF_ok h2
  have e : symCmp k1 n1 k2 n2 < 0 ↔ symCmp k1 n1 k2 n2 = -1 := by omega
  rw [e, l1, z1]
  omega

theorem order_boxes (w : World) (k1 n1 k2 n2 k3 n3 : Int) : BoxAt (((w.alloc (.cells #[.int .i64 k1, .int .i64 n1] 33)).alloc (.cells #[.int .i64 k2, .int .i64 n2] 33)).alloc (.cells #[.int .i64 k3, .int .i64 n3] 33)) w.heap.size k1 n1 ∧ BoxAt (((w.alloc (.cells #[.int .i64 k1, .int .i64 n1] 33)).alloc (.cells #[.int .i64 k2, .int .i64 n2] 33)).alloc (.cells #[.int .i64 k3, .int .i64 n3] 33)) (w.heap.size + 1) k2 n2 ∧ BoxAt (((w.alloc (.cells #[.int .i64 k1, .int .i64 n1] 33)).alloc (.cells #[.int .i64 k2, .int .i64 n2] 33)).alloc (.cells #[.int .i64 k3, .int .i64 n3] 33)) (w.heap.size + 1 + 1) k3 n3 ∧ Below w.heap.size w (((w.alloc (.cells #[.int .i64 k1, .int .i64 n1] 33)).alloc (.cells #[.int .i64 k2, .int .i64 n2] 33)).alloc (.cells #[.int .i64 k3, .int .i64 n3] 33)) := by
  have b2 := boxAt_new (w.alloc (.cells #[.int .i64 k1, .int .i64 n1] 33)) k2 n2 33
  have b3 := boxAt_new ((w.alloc (.cells #[.int .i64 k1, .int .i64 n1] 33)).alloc (.cells #[.int .i64 k2, .int .i64 n2] 33)) k3 n3 33
  have s1 : (w.alloc (.cells #[.int .i64 k1, .int .i64 n1] 33)).heap.size = w.heap.size + 1 := by simp
  have s2 : ((w.alloc (.cells #[.int .i64 k1, .int .i64 n1] 33)).alloc (.cells #[.int .i64 k2, .int .i64 n2] 33)).heap.size = w.heap.size + 1 + 1 := by simp
  rw [s1] at b2
  rw [s2] at b3
  exact ⟨((boxAt_new w k1 n1 _).alloc _).alloc _, b2.alloc _, b3, ((below_alloc w _).alloc (by simp) _).alloc (by simp; omega) _⟩
theorem order_below {w w5 w6 w7 w8 w9 w10 : World} (h5 : Below w.heap.size w w5) (h6 : Below w5.heap.size w5 w6) (h7 : Below w6.heap.size w6 w7) (h8 : Below w7.heap.size w7 w8) (h9 : Below w8.heap.size w8 w9) (h10 : Below w9.heap.size w9 w10) : Below w.heap.size w w10 := by
  have s5 := h5.size
  have s6 := h6.size
  have s7 := h7.size
  have s8 := h8.size
  have s9 := h9.size
  exact ((((h5.trans (h6.mono (by omega))).trans (h7.mono (by omega))).trans (h8.mono (by omega))).trans (h9.mono (by omega))).trans (h10.mono (by omega))
set_option maxRecDepth 100000 in
set_option maxHeartbeats 2000000 in
theorem order_core (k1 n1 k2 n2 k3 n3 T X XR Y Z m e m' f : Int) (w : World) (hn1 : -9223372036854775808 ≤ n1 ∧ n1 ≤ 9223372036854775807) (hn2 : -9223372036854775808 ≤ n2 ∧ n2 ≤ 9223372036854775807)
    (hX : Hid (symCmp k1 n1 k2 n2 = X)) (hR : Hid (symCmp k2 n2 k1 n1 = XR)) (hY : Hid (symCmp k2 n2 k3 n3 = Y)) (hZ : Hid (symCmp k1 n1 k3 n3 = Z)) (hm : Hid (denseF T k1 n1 = (m, e))) (hm' : Hid (denseF T k2 n2 = (m', f)))
    (x1 : -1 ≤ X) (x2 : X ≤ 1) (xr1 : -1 ≤ XR) (xr2 : XR ≤ 1) (xr : (X != -XR) = false)
    (hy : (X == Y) = false ∨ (X = Y ∧ X = Z))
    (hs : ((X == 0) = false ∧ ((k1 == k2) = false ∨ (k1 = k2 ∧ (n1 == n2) = false)) ∧ ((e != 0) = true ∨ ((e != 0) = false ∧ (f != 0) = true) ∨ ((e != 0) = false ∧ (f != 0) = false ∧ (m == m') = false ∧ (m < m' ∧ X < 0 ∨ ¬ m < m' ∧ ¬ X < 0))))
      ∨ (X = 0 ∧ XR = 0 ∧ k1 = k2 ∧ n1 = n2 ∧ ((e != 0) = true ∨ ((e != 0) = false ∧ (f != 0) = true) ∨ ((e != 0) = false ∧ (f != 0) = false ∧ m = m')))) :
    Calls Try.prog 6 #[.agg #[.int .i64 k1, .int .i64 n1], .agg #[.int .i64 k2, .int .i64 n2], .agg #[.int .i64 k3, .int .i64 n3], .int .i64 T] w fun e w' => e = .returned (.bool true) ∧ Below w.heap.size w w' := by
  have cX : ∀ w, Calls Try.prog 25 #[.agg #[.int .i64 k1, .int .i64 n1], .agg #[.int .i64 k2, .int .i64 n2]] w fun e w' => e = .returned (.int .i64 X) ∧ Below w.heap.size w w' := fun w => by have := compare_any k1 n1 k2 n2 w; rwa [hX.out] at this
  have cR : ∀ w, Calls Try.prog 25 #[.agg #[.int .i64 k2, .int .i64 n2], .agg #[.int .i64 k1, .int .i64 n1]] w fun e w' => e = .returned (.int .i64 XR) ∧ Below w.heap.size w w' := fun w => by have := compare_any k2 n2 k1 n1 w; rwa [hR.out] at this
  have cY : ∀ w, Calls Try.prog 25 #[.agg #[.int .i64 k2, .int .i64 n2], .agg #[.int .i64 k3, .int .i64 n3]] w fun e w' => e = .returned (.int .i64 Y) ∧ Below w.heap.size w w' := fun w => by have := compare_any k2 n2 k3 n3 w; rwa [hY.out] at this
  have cZ : ∀ w, Calls Try.prog 25 #[.agg #[.int .i64 k1, .int .i64 n1], .agg #[.int .i64 k3, .int .i64 n3]] w fun e w' => e = .returned (.int .i64 Z) ∧ Below w.heap.size w w' := fun w => by have := compare_any k1 n1 k3 n3 w; rwa [hZ.out] at this
  have cD : ∀ w, Calls Try.prog 16 #[.int .i64 T, .agg #[.int .i64 k1, .int .i64 n1]] w fun e' w' => e' = .returned (.tuple #[.int .i64 m, .int .i64 e]) ∧ Below w.heap.size w w' := fun w => dense_at w hn1.1 hn1.2 hm.out
  have cF : ∀ w, Calls Try.prog 16 #[.int .i64 T, .agg #[.int .i64 k2, .int .i64 n2]] w fun e' w' => e' = .returned (.tuple #[.int .i64 m', .int .i64 f]) ∧ Below w.heap.size w w' := fun w => dense_at w hn2.1 hn2.2 hm'.out
  clear hX hR hY hZ hm hm' hn1 hn2
  rcases hy with y1 | ⟨rfl, rfl⟩ <;> rcases hs with ⟨s0, q1 | ⟨rfl, q1⟩, d1 | ⟨d1, d2⟩ | ⟨d1, d2, d3, ⟨d4, d5⟩ | ⟨d4, d5⟩⟩⟩ | ⟨rfl, rfl, rfl, rfl, d1 | ⟨d1, d2⟩ | ⟨d1, d2, rfl⟩⟩
  all_goals
    go_enter Try.func6, Try.ntmps6
    go_wp2
    refine wp_world (fun w5 => BoxAt w5 w.heap.size k1 n1 ∧ BoxAt w5 (w.heap.size + 1) _ _ ∧ BoxAt w5 (w.heap.size + 1 + 1) k3 n3 ∧ Below w.heap.size w w5) (order_boxes w k1 n1 _ _ k3 n3) ?_
    rintro w5 ⟨hA, hB, hC, hW⟩
    have xA0 := fun x : Ext w5 => (hA.ext x).1
    have xA1 := fun x : Ext w5 => (hA.ext x).2
    have xB0 := fun x : Ext w5 => (hB.ext x).1
    have xB1 := fun x : Ext w5 => (hB.ext x).2
    have xC0 := fun x : Ext w5 => (hC.ext x).1
    have xC1 := fun x : Ext w5 => (hC.ext x).2
    refine wp_region_ext (by kernel_rfl) (by kernel_rfl) ?_
    repeat (quiet_step (first
      | (go_at_call 25; (with_reducible refine Calls.ext_of (cX _)))
      | (go_at_call 25; (with_reducible refine Calls.ext_of (cY _)))
      | (go_at_call 25; (with_reducible refine Calls.ext_of (cZ _)))))
    refine wpQuiet_nil ?_
    rintro _ ⟨x6, rfl⟩
    clear cX cY cZ
    have a0 := xA0 x6
    have a1 := xA1 x6
    have b0 := xB0 x6
    have b1 := xB1 x6
    clear xA0 xA1 xB0 xB1 xC0 xC1
    go_wp2_with (first
      | (go_at_call 25; refine (cR _).mono ?_; rintro e w7 ⟨rfl, hb7⟩; have hA7 := (hA.later x6.h).later hb7; have hB7 := (hB.later x6.h).later hb7; have a70 := hA7.c0; have a71 := hA7.c1; have b70 := hB7.c0; have b71 := hB7.c1)
      | (go_at_call 16; (with_reducible refine (cD w7).mono ?_); rintro e w8 ⟨rfl, hb8⟩; have hA8 := hA7.later hb8; have hB8 := hB7.later hb8; have b80 := hB8.c0; have b81 := hB8.c1)
      | (go_at_call 16; (with_reducible refine (cF w8).mono ?_); rintro e w9 ⟨rfl, hb9⟩)
      | (go_at_call 8; refine (works_any _).mono ?_; rintro e w10 ⟨rfl, hb10⟩))
    go_ret
    exact ⟨rfl, order_below hW x6.h hb7 hb8 hb9 hb10⟩
theorem order_walk (k1 n1 k2 n2 k3 n3 T : Int) (w : World) (hn1 : -9223372036854775808 ≤ n1 ∧ n1 ≤ 9223372036854775807) (hn2 : -9223372036854775808 ≤ n2 ∧ n2 ≤ 9223372036854775807) :
    Calls Try.prog 6 #[.agg #[.int .i64 k1, .int .i64 n1], .agg #[.int .i64 k2, .int .i64 n2], .agg #[.int .i64 k3, .int .i64 n3], .int .i64 T] w fun e w' => e = .returned (.bool true) ∧ Below w.heap.size w w' := by
  obtain ⟨m, e, hm⟩ : ∃ m e, denseF T k1 n1 = (m, e) := ⟨_, _, rfl⟩
  obtain ⟨m', f, hm'⟩ : ∃ m e, denseF T k2 n2 = (m, e) := ⟨_, _, rfl⟩
  have b := symCmp_bd k1 n1 k2 n2
  have r := symCmp_rev k1 n1 k2 n2
  have z := symCmp_zero k1 n1 k2 n2
  refine order_core k1 n1 k2 n2 k3 n3 T _ _ _ _ m e m' f w hn1 hn2 rfl rfl rfl rfl hm hm' b.1 b.2 (by omega) (by omega) (by simp; omega) ?_ ?_
  · by_cases h : symCmp k1 n1 k2 n2 = symCmp k2 n2 k3 n3
    · exact .inr ⟨h, (symCmp_trans _ _ _ _ _ _ h).symm⟩
    · exact .inl (by simpa using h)
  · have hD : e = 0 → f = 0 → (m < m' ↔ symCmp k1 n1 k2 n2 < 0) ∧ (m = m' ↔ symCmp k1 n1 k2 n2 = 0) := fun he hf => denseF_lt (by rw [hm, he]) (by rw [hm', hf])
    by_cases h0 : symCmp k1 n1 k2 n2 = 0
    · obtain ⟨rfl, rfl⟩ := z.1 h0
      refine .inr ⟨h0, by omega, rfl, rfl, ?_⟩
      rw [hm] at hm'
      simp at hm'
      obtain ⟨rfl, rfl⟩ := hm'
      by_cases he : e = 0
      · exact .inr (.inr ⟨by simp [he], by simp [he], rfl⟩)
      · exact .inl (by simp [he])
    · refine .inl ⟨by simp [h0], ?_, ?_⟩
      · by_cases hk : k1 = k2
        · exact .inr ⟨hk, by have : ¬ n1 = n2 := fun q => h0 (z.2 ⟨hk, q⟩); simp [this]⟩
        · exact .inl (by simp [hk])
      · by_cases he : e = 0
        · by_cases hf : f = 0
          · obtain ⟨i1, i2⟩ := hD he hf
            refine .inr (.inr ⟨by simp [he], by simp [hf], ?_, ?_⟩)
            · have : ¬ m = m' := fun q => h0 (i2.1 q)
              simp [this]
            · by_cases hl : m < m'
              · exact .inl ⟨hl, i1.1 hl⟩
              · exact .inr ⟨hl, fun q => hl (i1.2 q)⟩
          · exact .inr (.inl ⟨by simp [he], by simp [hf]⟩)
        · exact .inl (by simp [he])
end Go.Proofs.Ytnhfnihdikammab
