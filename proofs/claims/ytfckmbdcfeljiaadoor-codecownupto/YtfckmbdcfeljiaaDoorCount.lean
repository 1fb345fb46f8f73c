import Derived.Test.YtfckmbdcfeljiaaDoorPeek
namespace Go.Proofs.YtfckmbdcfeljiaaDoor
set_option linter.unusedVariables false
open Go.RowKit

theorem peek_eq {w : World} {r : Nat} {ao : Option Addr} {N cap : Nat} {xs : List Int} {pos : Nat} (most : Int) (h : RInv w r ao N cap xs pos 0) (n s e : Int) (hp : peekS xs pos most = (n, s, e)) :
    Calls Tryd.prog 74 #[.pointer (some ⟨r, 0, none⟩), .int .u64 most] w fun x w' => x = .returned (.agg #[.int .u64 n, .int .i64 s]) ∧ RInv w' r ao N cap xs pos e ∧ ROnly w w' r := by
  have := peek_any most h
  rw [hp] at this
  exact this
/-- What peek's answer says. -/
theorem peekS_facts (xs : List Int) (hb : isBytes xs) (pos : Nat) (hpos : pos ≤ xs.length) (most n s e : Int) (h : peekS xs pos most = (n, s, e)) :
    (e ≠ 0 → n = 0 ∧ s = 0) ∧ (e = 0 → 1 ≤ s ∧ s ≤ 10 ∧ pos + s ≤ xs.length ∧ 0 ≤ n ∧ n ≤ most ∧ n < 18446744073709551616 ∧ parse (xs.drop pos) = (n, s, 0)) := by
  obtain ⟨n', s', e', hp⟩ : ∃ n s e, parse (xs.drop pos) = (n, s, e) := ⟨_, _, _, rfl⟩
  obtain ⟨_, hf⟩ := parse_facts (xs.drop pos) (isBytes_drop hb pos) n' s' e' hp
  rw [peekS, hp] at h
  by_cases h1 : e' = 0
  · subst h1
    rw [if_neg (by simp)] at h
    by_cases h2 : most < n'
    · rw [if_pos h2] at h
      simp only [Prod.mk.injEq] at h
      obtain ⟨rfl, rfl, rfl⟩ := h
      exact ⟨fun _ => ⟨rfl, rfl⟩, fun h => by simp at h⟩
    · rw [if_neg h2] at h
      simp only [Prod.mk.injEq] at h
      obtain ⟨rfl, rfl, rfl⟩ := h
      have := hf rfl
      simp only [List.length_drop] at this
      exact ⟨fun h => absurd rfl h, fun _ => ⟨by omega, by omega, by omega, by omega, by omega, by omega, hp⟩⟩
  · rw [if_pos h1] at h
    simp only [Prod.mk.injEq] at h
    obtain ⟨rfl, rfl, rfl⟩ := h
    exact ⟨fun _ => ⟨rfl, rfl⟩, fun h => absurd h h1⟩

def countS (xs : List Int) (pos : Nat) (least most : Int) : Int × Int × Int :=
  if least < 1 ∨ most < 0 then (0, 0, 1)
  else if (peekS xs pos most).2.2 ≠ 0 then (0, 0, (peekS xs pos most).2.2)
  else if ((xs.length : Int) - pos - (peekS xs pos most).2.1) / least < (peekS xs pos most).1 then (0, 0, 11)
  else ((peekS xs pos most).1, (peekS xs pos most).2.1, 0)

/-- The result's own block, behind a call that turned block r alone. -/
theorem ROnly.own2 {w w2 : World} {r : Nat} {a b : Value} {t : TypeId} (h : ROnly (w.alloc (.cells #[a, b] t)) w2 r) (hr : r < w.heap.size) :
    w2.heap[w.heap.size]? = some (.cells #[a, b] t) :=
  (h.block w.heap.size (by simp) (by omega)).trans (heap_alloc_new w _)
theorem cells2 {w : World} {b : Nat} {x y : Value} {t : TypeId} (h : w.heap[b]? = some (.cells #[x, y] t)) : w.cell? ⟨b, 0, none⟩ = some x ∧ w.cell? ⟨b, 1, none⟩ = some y ∧ w.frozen? ⟨b, 0, none⟩ = false ∧ w.frozen? ⟨b, 1, none⟩ = false :=
  ⟨by simp [World.cell?, h], by simp [World.cell?, h], by simp [World.frozen?, h], by simp [World.frozen?, h]⟩

set_option maxRecDepth 100000 in
set_option maxHeartbeats 800000 in
theorem pcount_args {w : World} {r : Nat} {ao : Option Addr} {N cap : Nat} {xs : List Int} {pos : Nat} (least most : Int) (h : RInv w r ao N cap xs pos 0) (hb : least < 1 ∨ most < 0) :
    Calls Tryd.prog 82 #[.pointer (some ⟨r, 0, none⟩), .int .i64 least, .int .i64 most] w (PeekEnds r ao N cap xs pos 0 0 1 w) := by
  have h1 := h.later (below_alloc w (.cells #[.int .u64 0, .int .i64 0] 152))
  have hrl := h.lt
  by_cases hl : least < 1
  · go_enter Tryd.func82, Tryd.ntmps82
    go_wp2_with (go_at_call 56; refine (rfail_ok 1 h1).mono ?_; rintro e w' ⟨rfl, rfl⟩)
    go_returns
    exact ⟨rfl, (h.setErr 1).later (below_alloc _ _), (ROnly.set w r 3 _).trans (ROnly.ofBelow (below_alloc _ _))⟩
  · have hm : most < 0 := by omega
    go_enter Tryd.func82, Tryd.ntmps82
    go_wp2_with (go_at_call 56; refine (rfail_ok 1 h1).mono ?_; rintro e w' ⟨rfl, rfl⟩)
    go_returns
    exact ⟨rfl, (h.setErr 1).later (below_alloc _ _), (ROnly.set w r 3 _).trans (ROnly.ofBelow (below_alloc _ _))⟩

set_option maxRecDepth 100000 in
set_option maxHeartbeats 800000 in
theorem pcount_rest {w : World} {r : Nat} {ao : Option Addr} {N cap : Nat} {xs : List Int} {pos : Nat} (least most : Int) (h : RInv w r ao N cap xs pos 0) (hl : 1 ≤ least) (hm : 0 ≤ most) (hm1 : most ≤ 9223372036854775807) (hl1 : least ≤ 9223372036854775807)
    (n s e : Int) (hp : peekS xs pos most = (n, s, e)) (hn0 : 0 ≤ n) (hn1 : n < 18446744073709551616) (hs0 : 0 ≤ s) (hs1 : s ≤ 10) (hsl : (pos : Int) + s ≤ N) (hle : ¬ ((N : Int) - pos - s) / least < n) :
    Calls Tryd.prog 82 #[.pointer (some ⟨r, 0, none⟩), .int .i64 least, .int .i64 most] w (PeekEnds r ao N cap xs pos n s e w) := by
  have h1 := h.later (below_alloc w (.cells #[.int .u64 0, .int .i64 0] 152))
  have hrl := h.lt
  have hrne : r ≠ w.heap.size := by omega
  have HP : Hid _ := hp
  have hN : N ≤ 140737488355328 := by rw [h.len]; exact h.lim
  have hq0 : 0 ≤ ((N : Int) - pos - s) / least := Int.ediv_nonneg (by omega) (by omega)
  have hq1 : ((N : Int) - pos - s) / least ≤ 140737488355328 := Int.le_trans (Int.ediv_le_self _ (by omega)) (by omega)
  clear hp
  go_enter Tryd.func82, Tryd.ntmps82
  go_wp2_with (go_at_call 74; refine (peek_eq most h1 n s e HP.out).mono ?_; rintro e2 w2 ⟨rfl, hR2, hO2⟩; have hB2 := hO2.own2 hrl; obtain ⟨q0, q1, q2, q3⟩ := cells2 hB2; have hz2 : w.heap.size < w2.heap.size := lt_of_block hB2)
  have hR3 := hR2.later (below_alloc w2 (.cells #[.int .u64 n, .int .i64 s] 152))
  go_quiet ((go_at_call 63; exact Calls.quiet_of (rleft_any (hR3.drewN _))))
  go_wp2
  go_quiet (fail)
  go_wp2
  refine bodyPost_ret (v := .agg #[.int .u64 n, .int .i64 s]) (by simp [results, Tryd.results82, go_sem, q0, q1, hz2]) rfl ?_
  exact ⟨rfl, h.patched (hR3.drewN _) (two_sets _ _ _ _), ((ROnly.ofBelow (below_alloc w _)).trans (hO2.trans (ROnly.ofBelow (below_drewN (below_alloc w2 _) _)))).patched (two_sets _ _ _ _)⟩

set_option maxRecDepth 100000 in
set_option maxHeartbeats 800000 in
theorem pcount_short {w : World} {r : Nat} {ao : Option Addr} {N cap : Nat} {xs : List Int} {pos : Nat} (least most : Int) (h : RInv w r ao N cap xs pos 0) (hl : 1 ≤ least) (hm : 0 ≤ most) (hm1 : most ≤ 9223372036854775807) (hl1 : least ≤ 9223372036854775807)
    (n s : Int) (hp : peekS xs pos most = (n, s, 0)) (hn0 : 0 ≤ n) (hn1 : n < 18446744073709551616) (hs0 : 0 ≤ s) (hs1 : s ≤ 10) (hsl : (pos : Int) + s ≤ N) (hle : ((N : Int) - pos - s) / least < n) :
    Calls Tryd.prog 82 #[.pointer (some ⟨r, 0, none⟩), .int .i64 least, .int .i64 most] w (PeekEnds r ao N cap xs pos 0 0 11 w) := by
  have h1 := h.later (below_alloc w (.cells #[.int .u64 0, .int .i64 0] 152))
  have hrl := h.lt
  have hrne : r ≠ w.heap.size := by omega
  have HP : Hid _ := hp
  have hN : N ≤ 140737488355328 := by rw [h.len]; exact h.lim
  have hq0 : 0 ≤ ((N : Int) - pos - s) / least := Int.ediv_nonneg (by omega) (by omega)
  have hq1 : ((N : Int) - pos - s) / least ≤ 140737488355328 := Int.le_trans (Int.ediv_le_self _ (by omega)) (by omega)
  clear hp
  go_enter Tryd.func82, Tryd.ntmps82
  go_wp2_with (go_at_call 74; refine (peek_eq most h1 n s 0 HP.out).mono ?_; rintro e2 w2 ⟨rfl, hR2, hO2⟩; have hB2 := hO2.own2 hrl; obtain ⟨q0, q1, q2, q3⟩ := cells2 hB2; have hz2 : w.heap.size < w2.heap.size := lt_of_block hB2)
  have hR3 := hR2.later (below_alloc w2 (.cells #[.int .u64 n, .int .i64 s] 152))
  go_quiet ((go_at_call 63; exact Calls.quiet_of (rleft_any (hR3.drewN _))))
  go_wp2
  go_quiet (fail)
  go_wp2_with (go_at_call 56; refine (rfail_ok 11 (hR3.drewN _)).mono ?_; rintro e w' ⟨rfl, rfl⟩)
  refine bodyPost_ret (v := .agg #[.int .u64 0, .int .i64 0]) (by simp [results, Tryd.results82, go_sem, q0, q1, hz2]) rfl ?_
  exact ⟨rfl, h.patched ((hR3.drewN _).setErr 11) (two_sets _ _ _ _), ((ROnly.ofBelow (below_alloc w _)).trans ((hO2.trans (ROnly.ofBelow (below_drewN (below_alloc w2 _) _))).trans (ROnly.set _ _ _ _))).patched (two_sets _ _ _ _)⟩

theorem pcount_any {w : World} {r : Nat} {ao : Option Addr} {N cap : Nat} {xs : List Int} {pos : Nat} (least most : Int) (h : RInv w r ao N cap xs pos 0) (hm0 : -9223372036854775808 ≤ most) (hm1 : most ≤ 9223372036854775807) (hl1 : least ≤ 9223372036854775807) :
    Calls Tryd.prog 82 #[.pointer (some ⟨r, 0, none⟩), .int .i64 least, .int .i64 most] w (PeekEnds r ao N cap xs pos (countS xs pos least most).1 (countS xs pos least most).2.1 (countS xs pos least most).2.2 w) := by
  by_cases hb : least < 1 ∨ most < 0
  · rw [countS, if_pos hb]
    exact pcount_args least most h hb
  · have hl : 1 ≤ least := by omega
    have hm : 0 ≤ most := by omega
    obtain ⟨n, s, e, hp⟩ : ∃ n s e, peekS xs pos most = (n, s, e) := ⟨_, _, _, rfl⟩
    obtain ⟨f1, f2⟩ := peekS_facts xs h.row.1 pos h.pos most n s e hp
    have hN := h.len
    have hpos := h.pos
    rw [countS, if_neg hb, hp]
    by_cases he : e = 0
    · obtain ⟨g1, g2, g3, g4, g5, g6, _⟩ := f2 he
      subst he
      rw [if_neg (by simp)]
      by_cases hle : ((xs.length : Int) - pos - s) / least < n
      · rw [if_pos hle]
        exact pcount_short least most h hl hm hm1 hl1 n s hp g4 g6 (by omega) g2 (by omega) (by rw [hN]; exact hle)
      · rw [if_neg hle]
        exact pcount_rest least most h hl hm hm1 hl1 n s 0 hp g4 g6 (by omega) g2 (by omega) (by rw [hN]; exact hle)
    · obtain ⟨rfl, rfl⟩ := f1 he
      rw [if_pos he]
      have hq : 0 ≤ ((N : Int) - pos - 0) / least := Int.ediv_nonneg (by omega) (by omega)
      exact pcount_rest least most h hl hm hm1 hl1 0 0 e hp (by omega) (by omega) (by omega) (by omega) (by omega) (by omega)
theorem pcount_eq {w : World} {r : Nat} {ao : Option Addr} {N cap : Nat} {xs : List Int} {pos : Nat} (least most : Int) (h : RInv w r ao N cap xs pos 0) (hm0 : -9223372036854775808 ≤ most) (hm1 : most ≤ 9223372036854775807) (hl1 : least ≤ 9223372036854775807) (n s e : Int) (hc : countS xs pos least most = (n, s, e)) :
    Calls Tryd.prog 82 #[.pointer (some ⟨r, 0, none⟩), .int .i64 least, .int .i64 most] w fun x w' => x = .returned (.agg #[.int .u64 n, .int .i64 s]) ∧ RInv w' r ao N cap xs pos e ∧ ROnly w w' r := by
  have := pcount_any least most h hm0 hm1 hl1
  rw [hc] at this
  exact this
theorem countS_facts (xs : List Int) (hb : isBytes xs) (pos : Nat) (hpos : pos ≤ xs.length) (least most n s e : Int) (h : countS xs pos least most = (n, s, e)) :
    (e ≠ 0 → n = 0 ∧ s = 0) ∧ (e = 0 → 1 ≤ least ∧ 1 ≤ s ∧ s ≤ 10 ∧ pos + s ≤ xs.length ∧ 0 ≤ n ∧ n ≤ most ∧ n ≤ ((xs.length : Int) - pos - s) / least ∧ n < 18446744073709551616) := by
  rw [countS] at h
  by_cases hbad : least < 1 ∨ most < 0
  · rw [if_pos hbad] at h
    simp only [Prod.mk.injEq] at h
    obtain ⟨rfl, rfl, rfl⟩ := h
    exact ⟨fun _ => ⟨rfl, rfl⟩, fun h => by simp at h⟩
  · rw [if_neg hbad] at h
    obtain ⟨n', s', e', hp⟩ : ∃ n s e, peekS xs pos most = (n, s, e) := ⟨_, _, _, rfl⟩
    obtain ⟨f1, f2⟩ := peekS_facts xs hb pos hpos most n' s' e' hp
    rw [hp] at h
    by_cases he : e' = 0
    · subst he
      rw [if_neg (by simp)] at h
      by_cases hle : ((xs.length : Int) - pos - s') / least < n'
      · rw [if_pos hle] at h
        simp only [Prod.mk.injEq] at h
        obtain ⟨rfl, rfl, rfl⟩ := h
        exact ⟨fun _ => ⟨rfl, rfl⟩, fun h => by simp at h⟩
      · rw [if_neg hle] at h
        simp only [Prod.mk.injEq] at h
        obtain ⟨rfl, rfl, rfl⟩ := h
        obtain ⟨g1, g2, g3, g4, g5, g6, _⟩ := f2 rfl
        exact ⟨fun h => absurd rfl h, fun _ => ⟨by omega, g1, g2, g3, g4, g5, by omega, g6⟩⟩
    · rw [if_pos he] at h
      simp only [Prod.mk.injEq] at h
      obtain ⟨rfl, rfl, rfl⟩ := h
      exact ⟨fun _ => ⟨rfl, rfl⟩, fun h => absurd h he⟩

set_option maxRecDepth 100000 in
set_option maxHeartbeats 800000 in
/-- Count that reads. -/
theorem count_ok {w : World} {r : Nat} {ao : Option Addr} {N cap : Nat} {xs : List Int} {pos : Nat} (least most : Int) (h : RInv w r ao N cap xs pos 0) (hm0 : -9223372036854775808 ≤ most) (hm1 : most ≤ 9223372036854775807) (hl1 : least ≤ 9223372036854775807) (n : Int) (s : Nat) (hc : countS xs pos least most = (n, (s : Int), 0)) :
    Calls Tryd.prog 62 #[.pointer (some ⟨r, 0, none⟩), .int .i64 least, .int .i64 most] w fun x w' => x = .returned (.int .i64 n) ∧ RInv w' r ao N cap xs (pos + s) 0 ∧ ROnly w w' r := by
  obtain ⟨_, f2⟩ := countS_facts xs h.row.1 pos h.pos least most n s 0 hc
  obtain ⟨g0, g1, g2, g3, g4, g5, g6, g7⟩ := f2 rfl
  have HC : Hid _ := hc
  have hs0 : 0 < s := by omega
  have hs1 : s ≤ 140737488355328 := by omega
  have hq : pos + s ≤ xs.length := by omega
  have hn2 : n ≤ 9223372036854775807 := by omega
  have hrl := h.lt
  have hps := h.pos
  have hlm := h.lim
  clear hc f2 g1 g2 g3 g5 g6 g7
  go_enter Tryd.func62, Tryd.ntmps62
  go_wp2_with (first
    | (go_at_call 82; refine (pcount_eq least most h hm0 hm1 hl1 n s 0 HC.out).mono ?_; rintro e w2 ⟨rfl, hR2, hO2⟩; have hR3 := hR2.later (below_alloc w2 (.cells #[.int .u64 n, .int .i64 s] 152)); have hr2 := hR2.lt)
    | (go_at_call 75; refine (rmove_some s hR3 hs0 hs1).mono ?_; rintro e w' ⟨rfl, rfl⟩))
  go_ret
  have hx := hR2.setPos (pos + s) hq
  rw [Int.natCast_add] at hx
  exact ⟨rfl, hx.later (below_alloc _ _), (hO2.trans (ROnly.set _ _ _ _)).trans (ROnly.ofBelow (below_alloc _ _))⟩

set_option maxRecDepth 100000 in
set_option maxHeartbeats 800000 in
/-- Count that refuses. -/
theorem count_err {w : World} {r : Nat} {ao : Option Addr} {N cap : Nat} {xs : List Int} {pos : Nat} (least most : Int) (h : RInv w r ao N cap xs pos 0) (hm0 : -9223372036854775808 ≤ most) (hm1 : most ≤ 9223372036854775807) (hl1 : least ≤ 9223372036854775807) (e : Int) (hc : countS xs pos least most = (0, 0, e)) :
    Calls Tryd.prog 62 #[.pointer (some ⟨r, 0, none⟩), .int .i64 least, .int .i64 most] w fun x w' => x = .returned (.int .i64 0) ∧ RInv w' r ao N cap xs pos e ∧ ROnly w w' r := by
  have HC : Hid _ := hc
  clear hc
  go_enter Tryd.func62, Tryd.ntmps62
  go_wp2_with (first
    | (go_at_call 82; refine (pcount_eq least most h hm0 hm1 hl1 0 0 e HC.out).mono ?_; rintro e2 w2 ⟨rfl, hR2, hO2⟩)
    | (go_at_call 75; refine (rmove_none).mono ?_; rintro e w' ⟨rfl, rfl⟩))
  go_ret
  exact ⟨rfl, hR2.later (below_alloc _ _), hO2.trans (ROnly.ofBelow (below_alloc w2 _))⟩

/-- What End says. -/
def endS (xs : List Int) (pos : Nat) (err : Int) : Int × Int := if err ≠ 0 then (err, pos) else if pos < xs.length then (12, pos) else (0, 0)
set_option maxRecDepth 100000 in
set_option maxHeartbeats 800000 in
theorem rend_any {w : World} {r : Nat} {ao : Option Addr} {N cap : Nat} {xs : List Int} {pos : Nat} {err : Int} (h : RInv w r ao N cap xs pos err) :
    Calls Tryd.prog 57 #[.pointer (some ⟨r, 0, none⟩)] w fun x w' => x = .returned (.tuple #[.int .i64 (endS xs pos err).1, .int .i64 (endS xs pos err).2]) ∧ ∃ n, w' = w.drewN n := by
  have c0 := h.c0
  have c2 := h.c2
  have c3 := h.c3
  have hN := h.len
  have hps := h.pos
  by_cases he : err = 0
  · subst he
    by_cases hp : pos < xs.length
    · have FIN : Hid (endS xs pos 0 = (12, (pos : Int))) := by show _ = _; rw [endS, if_neg (by simp), if_pos hp]
      have hd : (0 : Int) < (N : Int) - pos := by omega
      rw [FIN.out]
      clear hN hps hp
      go_enter Tryd.func57, Tryd.ntmps57
      go_wp2_with (go_at_call 63; refine (rleft_any h).mono ?_; rintro e w' ⟨rfl, m, rfl⟩)
      go_quiet (fail)
      go_wp2
      go_ret2
      exact ⟨rfl, _, World.drewN_drewN _ _ _⟩
    · have FIN : Hid (endS xs pos 0 = (0, 0)) := by show _ = _; rw [endS, if_neg (by simp), if_neg hp]
      have hd : ¬ (0 : Int) < (N : Int) - pos := by omega
      rw [FIN.out]
      clear hN hps hp
      go_enter Tryd.func57, Tryd.ntmps57
      go_wp2_with (go_at_call 63; refine (rleft_any h).mono ?_; rintro e w' ⟨rfl, m, rfl⟩)
      go_ret2
      exact ⟨rfl, _, rfl⟩
  · have FIN : Hid (endS xs pos err = (err, (pos : Int))) := by show _ = _; rw [endS, if_pos he]
    have hb : (err != 0) = true := by simpa using he
    rw [FIN.out]
    clear hN hps he
    go_enter Tryd.func57, Tryd.ntmps57
    go_wp2
    go_quiet (fail)
    go_wp2
    go_ret2
    exact ⟨rfl, _, rfl⟩
end Go.Proofs.YtfckmbdcfeljiaaDoor
