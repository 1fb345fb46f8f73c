import Derived.Test.YthgnhdnmcjpdmaaGreatDoorPReaderToPeek
import Derived.Test.YthgnhdnmcjpdmaaGreatDoorPWText
namespace Go.Proofs.YthgnhdnmcjpdmaaGreatDoor.C
set_option linter.unusedVariables false
set_option maxRecDepth 100000
set_option maxHeartbeats 16000000
open Go.RowKit
theorem peek_eq {w : World} {r : Nat} {ao : Option Addr} {N cap : Nat} {xs : List Int} {pos : Nat} (most : Int) (h : RInv w r ao N cap xs pos 0) (n s e : Int) (hp : peekS xs pos most = (n, s, e)) :
  Calls Tryz.prog 159 #[.pointer (some ⟨r, 0, none⟩), .int .u64 most] w fun x w' => x = .returned (.agg #[.int .u64 n, .int .i64 s]) /\ RInv w' r ao N cap xs pos e /\ ROnly w w' r := by
 have := peek_any most h
 rw [hp] at this
 exact this
theorem peekS_facts (xs : List Int) (hb : isBytes xs) (pos : Nat) (hpos : pos <= xs.length) (most n s e : Int) (h : peekS xs pos most = (n, s, e)) :
  (e ≠ 0 -> n = 0 /\ s = 0) /\ (e = 0 -> 1 <= s /\ s <= 10 /\ pos + s <= xs.length /\ 0 <= n /\ n <= most /\ n < 18446744073709551616 /\ parse (xs.drop pos) = (n, s, 0)) := by
 obtain ⟨n', s', e', hp⟩ : ∃ n s e, parse (xs.drop pos) = (n, s, e) := ⟨_, _, _, rfl⟩
 obtain ⟨_, hf⟩ := parse_facts (xs.drop pos) (isBytes_drop hb pos) n' s' e' hp
 rw [peekS, hp] at h
 by_cases h1 : e' = 0
 ·subst h1
  rw [if_neg (by simp)] at h
  by_cases h2 : most < n'
  ·rw [if_pos h2] at h
   simp only [Prod.mk.injEq] at h
   obtain ⟨rfl, rfl, rfl⟩ := h
   exact ⟨fun _ => ⟨rfl, rfl⟩, fun h => by simp at h⟩
  ·rw [if_neg h2] at h
   simp only [Prod.mk.injEq] at h
   obtain ⟨rfl, rfl, rfl⟩ := h
   have := hf rfl
   simp only [List.length_drop] at this
   exact ⟨fun h => absurd rfl h, fun _ => ⟨by omega, by omega, by omega, by omega, by omega, by omega, hp⟩⟩
 ·rw [if_pos h1] at h
  simp only [Prod.mk.injEq] at h
  obtain ⟨rfl, rfl, rfl⟩ := h
  exact ⟨fun _ => ⟨rfl, rfl⟩, fun h => absurd h h1⟩
def countS (xs : List Int) (pos : Nat) (least most : Int) : Int × Int × Int :=
 if least < 1 ∨ most < 0 then (0, 0, 1)
 else if (peekS xs pos most).2.2 ≠ 0 then (0, 0, (peekS xs pos most).2.2)
 else if ((xs.length : Int) - pos - (peekS xs pos most).2.1) / least < (peekS xs pos most).1 then (0, 0, 11)
 else ((peekS xs pos most).1, (peekS xs pos most).2.1, 0)
theorem ROnly.own2 {w w2 : World} {r : Nat} {a b : Value} {t : TypeId} (h : ROnly (w.alloc (.cells #[a, b] t)) w2 r) (hr : r < w.heap.size) :
  w2.heap[w.heap.size]? = some (.cells #[a, b] t) :=
 (h.block w.heap.size (by simp) (by omega)).trans (heap_alloc_new w _)
theorem cells2 {w : World} {b : Nat} {x y : Value} {t : TypeId} (h : w.heap[b]? = some (.cells #[x, y] t)) : w.cell? ⟨b, 0, none⟩ = some x /\ w.cell? ⟨b, 1, none⟩ = some y /\ w.frozen? ⟨b, 0, none⟩ = false /\ w.frozen? ⟨b, 1, none⟩ = false :=
 ⟨by simp [World.cell?, h], by simp [World.cell?, h], by simp [World.frozen?, h], by simp [World.frozen?, h]⟩
theorem pcount_args {w : World} {r : Nat} {ao : Option Addr} {N cap : Nat} {xs : List Int} {pos : Nat} (least most : Int) (h : RInv w r ao N cap xs pos 0) (hb : least < 1 ∨ most < 0) :
  Calls Tryz.prog 156 #[.pointer (some ⟨r, 0, none⟩), .int .i64 least, .int .i64 most] w (PeekEnds r ao N cap xs pos 0 0 1 w) := by
 have h1 := h.later (below_alloc w (.cells #[.int .u64 0, .int .i64 0] 231))
 have hrl := h.lt
 by_cases hl : least < 1
 ·go_enter Tryz.func156, Tryz.ntmps156
  go_wp2_with (go_at_call 131; refine (rfail_ok 1 h1).mono ?_; rintro e w' ⟨rfl, rfl⟩)
  go_returns
  exact ⟨rfl, (h.setErr 1).later (below_alloc _ _), (ROnly.set w r 3 _).trans (ROnly.ofBelow (below_alloc _ _))⟩
 ·have hm : most < 0 := by omega
  go_enter Tryz.func156, Tryz.ntmps156
  go_wp2_with (go_at_call 131; refine (rfail_ok 1 h1).mono ?_; rintro e w' ⟨rfl, rfl⟩)
  go_returns
  exact ⟨rfl, (h.setErr 1).later (below_alloc _ _), (ROnly.set w r 3 _).trans (ROnly.ofBelow (below_alloc _ _))⟩
theorem pcount_rest {w : World} {r : Nat} {ao : Option Addr} {N cap : Nat} {xs : List Int} {pos : Nat} (least most : Int) (h : RInv w r ao N cap xs pos 0) (hl : 1 <= least) (hm : 0 <= most) (hm1 : most <= 9223372036854775807) (hl1 : least <= 9223372036854775807)
  (n s e : Int) (hp : peekS xs pos most = (n, s, e)) (hn0 : 0 <= n) (hn1 : n < 18446744073709551616) (hs0 : 0 <= s) (hs1 : s <= 10) (hsl : (pos : Int) + s <= N) (hle : ¬ ((N : Int) - pos - s) / least < n) :
  Calls Tryz.prog 156 #[.pointer (some ⟨r, 0, none⟩), .int .i64 least, .int .i64 most] w (PeekEnds r ao N cap xs pos n s e w) := by
 have h1 := h.later (below_alloc w (.cells #[.int .u64 0, .int .i64 0] 231))
 have hrl := h.lt
 have hrne : r ≠ w.heap.size := by omega
 have HP : Hid _ := hp
 have hN : N <= 140737488355328 := by rw [h.len]; exact h.lim
 have hq0 : 0 <= ((N : Int) - pos - s) / least := Int.ediv_nonneg (by omega) (by omega)
 have hq1 : ((N : Int) - pos - s) / least <= 140737488355328 := Int.le_trans (Int.ediv_le_self _ (by omega)) (by omega)
 clear hp
 go_enter Tryz.func156, Tryz.ntmps156
 go_wp2_with (go_at_call 159; refine (peek_eq most h1 n s e HP.out).mono ?_; rintro e2 w2 ⟨rfl, hR2, hO2⟩; have hB2 := hO2.own2 hrl; obtain ⟨q0, q1, q2, q3⟩ := cells2 hB2; have hz2 : w.heap.size < w2.heap.size := lt_of_block hB2)
 have hR3 := hR2.later (below_alloc w2 (.cells #[.int .u64 n, .int .i64 s] 231))
 go_quiet ((go_at_call 103; exact Calls.quiet_of (rleft_any (hR3.drewN _))))
 go_wp2
 go_quiet (fail)
 go_wp2
 refine bodyPost_ret (v := .agg #[.int .u64 n, .int .i64 s]) (by simp [results, Tryz.results156, go_sem, q0, q1, hz2]) rfl ?_
 exact ⟨rfl, h.patched (hR3.drewN _) (two_sets _ _ _ _), ((ROnly.ofBelow (below_alloc w _)).trans (hO2.trans (ROnly.ofBelow (below_drewN (below_alloc w2 _) _)))).patched (two_sets _ _ _ _)⟩
theorem pcount_short {w : World} {r : Nat} {ao : Option Addr} {N cap : Nat} {xs : List Int} {pos : Nat} (least most : Int) (h : RInv w r ao N cap xs pos 0) (hl : 1 <= least) (hm : 0 <= most) (hm1 : most <= 9223372036854775807) (hl1 : least <= 9223372036854775807)
  (n s : Int) (hp : peekS xs pos most = (n, s, 0)) (hn0 : 0 <= n) (hn1 : n < 18446744073709551616) (hs0 : 0 <= s) (hs1 : s <= 10) (hsl : (pos : Int) + s <= N) (hle : ((N : Int) - pos - s) / least < n) :
  Calls Tryz.prog 156 #[.pointer (some ⟨r, 0, none⟩), .int .i64 least, .int .i64 most] w (PeekEnds r ao N cap xs pos 0 0 11 w) := by
 have h1 := h.later (below_alloc w (.cells #[.int .u64 0, .int .i64 0] 231))
 have hrl := h.lt
 have hrne : r ≠ w.heap.size := by omega
 have HP : Hid _ := hp
 have hN : N <= 140737488355328 := by rw [h.len]; exact h.lim
 have hq0 : 0 <= ((N : Int) - pos - s) / least := Int.ediv_nonneg (by omega) (by omega)
 have hq1 : ((N : Int) - pos - s) / least <= 140737488355328 := Int.le_trans (Int.ediv_le_self _ (by omega)) (by omega)
 clear hp
 go_enter Tryz.func156, Tryz.ntmps156
 go_wp2_with (go_at_call 159; refine (peek_eq most h1 n s 0 HP.out).mono ?_; rintro e2 w2 ⟨rfl, hR2, hO2⟩; have hB2 := hO2.own2 hrl; obtain ⟨q0, q1, q2, q3⟩ := cells2 hB2; have hz2 : w.heap.size < w2.heap.size := lt_of_block hB2)
 have hR3 := hR2.later (below_alloc w2 (.cells #[.int .u64 n, .int .i64 s] 231))
 go_quiet ((go_at_call 103; exact Calls.quiet_of (rleft_any (hR3.drewN _))))
 go_wp2
 go_quiet (fail)
 go_wp2_with (go_at_call 131; refine (rfail_ok 11 (hR3.drewN _)).mono ?_; rintro e w' ⟨rfl, rfl⟩)
 refine bodyPost_ret (v := .agg #[.int .u64 0, .int .i64 0]) (by simp [results, Tryz.results156, go_sem, q0, q1, hz2]) rfl ?_
 exact ⟨rfl, h.patched ((hR3.drewN _).setErr 11) (two_sets _ _ _ _), ((ROnly.ofBelow (below_alloc w _)).trans ((hO2.trans (ROnly.ofBelow (below_drewN (below_alloc w2 _) _))).trans (ROnly.set _ _ _ _))).patched (two_sets _ _ _ _)⟩
theorem pcount_any {w : World} {r : Nat} {ao : Option Addr} {N cap : Nat} {xs : List Int} {pos : Nat} (least most : Int) (h : RInv w r ao N cap xs pos 0) (hm0 : -9223372036854775808 <= most) (hm1 : most <= 9223372036854775807) (hl1 : least <= 9223372036854775807) :
  Calls Tryz.prog 156 #[.pointer (some ⟨r, 0, none⟩), .int .i64 least, .int .i64 most] w (PeekEnds r ao N cap xs pos (countS xs pos least most).1 (countS xs pos least most).2.1 (countS xs pos least most).2.2 w) := by
 by_cases hb : least < 1 ∨ most < 0
 ·rw [countS, if_pos hb]
  exact pcount_args least most h hb
 ·have hl : 1 <= least := by omega
  have hm : 0 <= most := by omega
  obtain ⟨n, s, e, hp⟩ : ∃ n s e, peekS xs pos most = (n, s, e) := ⟨_, _, _, rfl⟩
  obtain ⟨f1, f2⟩ := peekS_facts xs h.row.1 pos h.pos most n s e hp
  have hN := h.len
  have hpos := h.pos
  rw [countS, if_neg hb, hp]
  by_cases he : e = 0
  ·obtain ⟨g1, g2, g3, g4, g5, g6, _⟩ := f2 he
   subst he
   rw [if_neg (by simp)]
   by_cases hle : ((xs.length : Int) - pos - s) / least < n
   ·rw [if_pos hle]
    exact pcount_short least most h hl hm hm1 hl1 n s hp g4 g6 (by omega) g2 (by omega) (by rw [hN]; exact hle)
   ·rw [if_neg hle]
    exact pcount_rest least most h hl hm hm1 hl1 n s 0 hp g4 g6 (by omega) g2 (by omega) (by rw [hN]; exact hle)
  ·obtain ⟨rfl, rfl⟩ := f1 he
   rw [if_pos he]
   have hq : 0 <= ((N : Int) - pos - 0) / least := Int.ediv_nonneg (by omega) (by omega)
   exact pcount_rest least most h hl hm hm1 hl1 0 0 e hp (by omega) (by omega) (by omega) (by omega) (by omega) (by omega)
theorem pcount_eq {w : World} {r : Nat} {ao : Option Addr} {N cap : Nat} {xs : List Int} {pos : Nat} (least most : Int) (h : RInv w r ao N cap xs pos 0) (hm0 : -9223372036854775808 <= most) (hm1 : most <= 9223372036854775807) (hl1 : least <= 9223372036854775807) (n s e : Int) (hc : countS xs pos least most = (n, s, e)) :
  Calls Tryz.prog 156 #[.pointer (some ⟨r, 0, none⟩), .int .i64 least, .int .i64 most] w fun x w' => x = .returned (.agg #[.int .u64 n, .int .i64 s]) /\ RInv w' r ao N cap xs pos e /\ ROnly w w' r := by
 have := pcount_any least most h hm0 hm1 hl1
 rw [hc] at this
 exact this
theorem countS_facts (xs : List Int) (hb : isBytes xs) (pos : Nat) (hpos : pos <= xs.length) (least most n s e : Int) (h : countS xs pos least most = (n, s, e)) :
  (e ≠ 0 -> n = 0 /\ s = 0) /\ (e = 0 -> 1 <= least /\ 1 <= s /\ s <= 10 /\ pos + s <= xs.length /\ 0 <= n /\ n <= most /\ n <= ((xs.length : Int) - pos - s) / least /\ n < 18446744073709551616) := by
 rw [countS] at h
 by_cases hbad : least < 1 ∨ most < 0
 ·rw [if_pos hbad] at h
  simp only [Prod.mk.injEq] at h
  obtain ⟨rfl, rfl, rfl⟩ := h
  exact ⟨fun _ => ⟨rfl, rfl⟩, fun h => by simp at h⟩
 ·rw [if_neg hbad] at h
  obtain ⟨n', s', e', hp⟩ : ∃ n s e, peekS xs pos most = (n, s, e) := ⟨_, _, _, rfl⟩
  obtain ⟨f1, f2⟩ := peekS_facts xs hb pos hpos most n' s' e' hp
  rw [hp] at h
  by_cases he : e' = 0
  ·subst he
   rw [if_neg (by simp)] at h
   by_cases hle : ((xs.length : Int) - pos - s') / least < n'
   ·rw [if_pos hle] at h
    simp only [Prod.mk.injEq] at h
    obtain ⟨rfl, rfl, rfl⟩ := h
    exact ⟨fun _ => ⟨rfl, rfl⟩, fun h => by simp at h⟩
   ·rw [if_neg hle] at h
    simp only [Prod.mk.injEq] at h
    obtain ⟨rfl, rfl, rfl⟩ := h
    obtain ⟨g1, g2, g3, g4, g5, g6, _⟩ := f2 rfl
    exact ⟨fun h => absurd rfl h, fun _ => ⟨by omega, g1, g2, g3, g4, g5, by omega, g6⟩⟩
  ·rw [if_pos he] at h
   simp only [Prod.mk.injEq] at h
   obtain ⟨rfl, rfl, rfl⟩ := h
   exact ⟨fun _ => ⟨rfl, rfl⟩, fun h => absurd h he⟩
theorem count_ok {w : World} {r : Nat} {ao : Option Addr} {N cap : Nat} {xs : List Int} {pos : Nat} (least most : Int) (h : RInv w r ao N cap xs pos 0) (hm0 : -9223372036854775808 <= most) (hm1 : most <= 9223372036854775807) (hl1 : least <= 9223372036854775807) (n : Int) (s : Nat) (hc : countS xs pos least most = (n, (s : Int), 0)) :
  Calls Tryz.prog 128 #[.pointer (some ⟨r, 0, none⟩), .int .i64 least, .int .i64 most] w fun x w' => x = .returned (.int .i64 n) /\ RInv w' r ao N cap xs (pos + s) 0 /\ ROnly w w' r := by
 obtain ⟨_, f2⟩ := countS_facts xs h.row.1 pos h.pos least most n s 0 hc
 obtain ⟨g0, g1, g2, g3, g4, g5, g6, g7⟩ := f2 rfl
 have HC : Hid _ := hc
 have hs0 : 0 < s := by omega
 have hs1 : s <= 140737488355328 := by omega
 have hq : pos + s <= xs.length := by omega
 have hn2 : n <= 9223372036854775807 := by omega
 have hrl := h.lt
 have hps := h.pos
 have hlm := h.lim
 clear hc f2 g1 g2 g3 g5 g6 g7
 go_enter Tryz.func128, Tryz.ntmps128
 go_wp2_with (first
  | (go_at_call 156; refine (pcount_eq least most h hm0 hm1 hl1 n s 0 HC.out).mono ?_; rintro e w2 ⟨rfl, hR2, hO2⟩; have hR3 := hR2.later (below_alloc w2 (.cells #[.int .u64 n, .int .i64 s] 231)); have hr2 := hR2.lt)
  | (go_at_call 157; refine (rmove_some s hR3 hs0 hs1).mono ?_; rintro e w' ⟨rfl, rfl⟩))
 go_ret
 have hx := hR2.setPos (pos + s) hq
 rw [Int.natCast_add] at hx
 exact ⟨rfl, hx.later (below_alloc _ _), (hO2.trans (ROnly.set _ _ _ _)).trans (ROnly.ofBelow (below_alloc _ _))⟩
theorem count_err {w : World} {r : Nat} {ao : Option Addr} {N cap : Nat} {xs : List Int} {pos : Nat} (least most : Int) (h : RInv w r ao N cap xs pos 0) (hm0 : -9223372036854775808 <= most) (hm1 : most <= 9223372036854775807) (hl1 : least <= 9223372036854775807) (e : Int) (hc : countS xs pos least most = (0, 0, e)) :
  Calls Tryz.prog 128 #[.pointer (some ⟨r, 0, none⟩), .int .i64 least, .int .i64 most] w fun x w' => x = .returned (.int .i64 0) /\ RInv w' r ao N cap xs pos e /\ ROnly w w' r := by
 have HC : Hid _ := hc
 clear hc
 go_enter Tryz.func128, Tryz.ntmps128
 go_wp2_with (first
  | (go_at_call 156; refine (pcount_eq least most h hm0 hm1 hl1 0 0 e HC.out).mono ?_; rintro e2 w2 ⟨rfl, hR2, hO2⟩)
  | (go_at_call 157; refine (rmove_none).mono ?_; rintro e w' ⟨rfl, rfl⟩))
 go_ret
 exact ⟨rfl, hR2.later (below_alloc _ _), hO2.trans (ROnly.ofBelow (below_alloc w2 _))⟩
def endS (xs : List Int) (pos : Nat) (err : Int) : Int × Int := if err ≠ 0 then (err, pos) else if pos < xs.length then (12, pos) else (0, 0)
theorem rend_any {w : World} {r : Nat} {ao : Option Addr} {N cap : Nat} {xs : List Int} {pos : Nat} {err : Int} (h : RInv w r ao N cap xs pos err) :
  Calls Tryz.prog 39 #[.pointer (some ⟨r, 0, none⟩)] w fun x w' => x = .returned (.tuple #[.int .i64 (endS xs pos err).1, .int .i64 (endS xs pos err).2]) /\ ∃ n, w' = w.drewN n := by
 have c0 := h.c0
 have c2 := h.c2
 have c3 := h.c3
 have hN := h.len
 have hps := h.pos
 by_cases he : err = 0
 ·subst he
  by_cases hp : pos < xs.length
  ·have FIN : Hid (endS xs pos 0 = (12, (pos : Int))) := by show _ = _; rw [endS, if_neg (by simp), if_pos hp]
   have hd : (0 : Int) < (N : Int) - pos := by omega
   rw [FIN.out]
   clear hN hps hp
   go_enter Tryz.func39, Tryz.ntmps39
   go_wp2_with (go_at_call 103; refine (rleft_any h).mono ?_; rintro e w' ⟨rfl, m, rfl⟩)
   go_quiet (fail)
   go_wp2
   go_ret2
   exact ⟨rfl, _, World.drewN_drewN _ _ _⟩
  ·have FIN : Hid (endS xs pos 0 = (0, 0)) := by show _ = _; rw [endS, if_neg (by simp), if_neg hp]
   have hd : ¬ (0 : Int) < (N : Int) - pos := by omega
   rw [FIN.out]
   clear hN hps hp
   go_enter Tryz.func39, Tryz.ntmps39
   go_wp2_with (go_at_call 103; refine (rleft_any h).mono ?_; rintro e w' ⟨rfl, m, rfl⟩)
   go_ret2
   exact ⟨rfl, _, rfl⟩
 ·have FIN : Hid (endS xs pos err = (err, (pos : Int))) := by show _ = _; rw [endS, if_pos he]
  have hb : (err != 0) = true := by simpa using he
  rw [FIN.out]
  clear hN hps he
  go_enter Tryz.func39, Tryz.ntmps39
  go_wp2
  go_quiet (fail)
  go_wp2
  go_ret2
  exact ⟨rfl, _, rfl⟩
theorem take_ok {w : World} {r : Nat} {ao : Option Addr} {N cap : Nat} {xs : List Int} {pos : Nat} (most : Int) (h : RInv w r ao N cap xs pos 0) (n : Int) (s : Nat) (hp : peekS xs pos most = (n, (s : Int), 0)) :
  Calls Tryz.prog 132 #[.pointer (some ⟨r, 0, none⟩), .int .u64 most] w fun x w' => x = .returned (.int .u64 n) /\ RInv w' r ao N cap xs (pos + s) 0 /\ ROnly w w' r := by
 obtain ⟨_, f2⟩ := peekS_facts xs h.row.1 pos h.pos most n s 0 hp
 obtain ⟨g1, g2, g3, g4, g5, g6, _⟩ := f2 rfl
 have HC : Hid _ := hp
 have hs0 : 0 < s := by omega
 have hs1 : s <= 140737488355328 := by omega
 have hq : pos + s <= xs.length := by omega
 have hps := h.pos
 have hlm := h.lim
 clear hp f2 g1 g2 g3 g5 g6
 go_enter Tryz.func132, Tryz.ntmps132
 go_wp2_with (first
  | (go_at_call 159; refine (peek_eq most h n s 0 HC.out).mono ?_; rintro e w2 ⟨rfl, hR2, hO2⟩; have hR3 := hR2.later (below_alloc w2 (.cells #[.int .u64 n, .int .i64 s] 231)); have hr2 := hR2.lt)
  | (go_at_call 157; refine (rmove_some s hR3 hs0 hs1).mono ?_; rintro e w' ⟨rfl, rfl⟩))
 go_ret
 have hx := hR2.setPos (pos + s) hq
 rw [Int.natCast_add] at hx
 exact ⟨rfl, hx.later (below_alloc _ _), (hO2.trans (ROnly.set _ _ _ _)).trans (ROnly.ofBelow (below_alloc _ _))⟩
theorem take_err {w : World} {r : Nat} {ao : Option Addr} {N cap : Nat} {xs : List Int} {pos : Nat} (most : Int) (h : RInv w r ao N cap xs pos 0) (e : Int) (hp : peekS xs pos most = (0, 0, e)) :
  Calls Tryz.prog 132 #[.pointer (some ⟨r, 0, none⟩), .int .u64 most] w fun x w' => x = .returned (.int .u64 0) /\ RInv w' r ao N cap xs pos e /\ ROnly w w' r := by
 have HC : Hid _ := hp
 clear hp
 go_enter Tryz.func132, Tryz.ntmps132
 go_wp2_with (first
  | (go_at_call 159; refine (peek_eq most h 0 0 e HC.out).mono ?_; rintro e2 w2 ⟨rfl, hR2, hO2⟩)
  | (go_at_call 157; refine (rmove_none).mono ?_; rintro e w' ⟨rfl, rfl⟩))
 go_ret
 exact ⟨rfl, hR2.later (below_alloc _ _), hO2.trans (ROnly.ofBelow (below_alloc w2 _))⟩
theorem take_none {w : World} {r : Nat} {ao : Option Addr} {N cap : Nat} {xs : List Int} {pos : Nat} {err : Int} (most : Int) (h : RInv w r ao N cap xs pos err) (hne : (err == 0) = false) :
  Calls Tryz.prog 132 #[.pointer (some ⟨r, 0, none⟩), .int .u64 most] w fun x w' => x = .returned (.int .u64 0) /\ RInv w' r ao N cap xs pos err /\ ROnly w w' r := by
 go_enter Tryz.func132, Tryz.ntmps132
 go_wp2_with (first
  | (go_at_call 159; refine (peek_none most h hne).mono ?_; rintro e2 w2 ⟨rfl, hR2, hO2⟩)
  | (go_at_call 157; refine (rmove_none).mono ?_; rintro e w' ⟨rfl, rfl⟩))
 go_ret
 exact ⟨rfl, hR2.later (below_alloc _ _), hO2.trans (ROnly.ofBelow (below_alloc w2 _))⟩
def takeS (xs : List Int) (pos : Nat) (err most : Int) : Int × Nat × Int :=
 if err ≠ 0 then (0, pos, err)
 else if (peekS xs pos most).2.2 ≠ 0 then (0, pos, (peekS xs pos most).2.2)
 else ((peekS xs pos most).1, pos + (peekS xs pos most).2.1.toNat, 0)
theorem take_any {w : World} {r : Nat} {ao : Option Addr} {N cap : Nat} {xs : List Int} {pos : Nat} {err : Int} (most : Int) (h : RInv w r ao N cap xs pos err) (n : Int) (p : Nat) (e : Int) (ht : takeS xs pos err most = (n, p, e)) :
  Calls Tryz.prog 132 #[.pointer (some ⟨r, 0, none⟩), .int .u64 most] w fun x w' => x = .returned (.int .u64 n) /\ RInv w' r ao N cap xs p e /\ ROnly w w' r := by
 rw [takeS] at ht
 by_cases he : err = 0
 ·subst he
  rw [if_neg (by simp)] at ht
  obtain ⟨n', s', e', hp⟩ : ∃ n s e, peekS xs pos most = (n, s, e) := ⟨_, _, _, rfl⟩
  obtain ⟨f1, f2⟩ := peekS_facts xs h.row.1 pos h.pos most n' s' e' hp
  rw [hp] at ht
  by_cases he' : e' = 0
  ·subst he'
   rw [if_neg (by simp)] at ht
   simp only [Prod.mk.injEq] at ht
   obtain ⟨rfl, rfl, rfl⟩ := ht
   have := f2 rfl
   obtain ⟨s, rfl⟩ := Int.eq_ofNat_of_zero_le (show 0 <= s' by omega)
   exact take_ok most h n' s hp
  ·obtain ⟨rfl, rfl⟩ := f1 he'
   rw [if_pos he'] at ht
   simp only [Prod.mk.injEq] at ht
   obtain ⟨rfl, rfl, rfl⟩ := ht
   exact take_err most h e' hp
 ·rw [if_pos he] at ht
  simp only [Prod.mk.injEq] at ht
  obtain ⟨rfl, rfl, rfl⟩ := ht
  exact take_none most h (by simpa using he)
theorem WInv.only {w w' : World} {r : Nat} {p q : Nat} {v : Value} {zs : List Int} {e : Int} (hW : WInv w p q v zs e) (ho : ROnly w w' r) (ha : p ≠ r /\ q ≠ r /\ some r ≠ v.ownBlock) : WInv w' p q v zs e :=
 ⟨(ho.block p (lt_of_block hW.hp) ha.1).trans hW.hp, (ho.block q (lt_of_block hW.hq) ha.2.1).trans hW.hq, hW.own.kept fun k hk => ho.block k (hW.own.lt k hk) (fun e => ha.2.2 (by rw [hk, e]))⟩
theorem rint_any {w : World} {r : Nat} {ao : Option Addr} {N cap : Nat} {xs : List Int} {pos : Nat} {err : Int} (most : Int) (h : RInv w r ao N cap xs pos err) (hm : 0 <= most) (hm1 : most <= 9223372036854775807) (n : Int) (p : Nat) (e : Int) (ht : takeS xs pos err most = (n, p, e)) (hn0 : 0 <= n) (hn1 : n <= 9223372036854775807) :
  Calls Tryz.prog 98 #[.pointer (some ⟨r, 0, none⟩), .int .i64 most] w fun x w' => x = .returned (.int .i64 n) /\ RInv w' r ao N cap xs p e /\ ROnly w w' r := by
 have HT : Hid _ := ht
 clear ht
 go_enter Tryz.func98, Tryz.ntmps98
 go_wp2_with (go_at_call 132; refine (take_any most h n p e HT.out).mono ?_; rintro e2 w2 ⟨rfl, hR2, hO2⟩)
 go_ret
 exact ⟨rfl, hR2, hO2⟩
def unfoldS (n : Int) : Int := if n % 2 = 1 then -(n / 2) - 1 else n / 2
theorem unfold_any (n : Int) (w : World) (h0 : 0 <= n) (h1 : n <= 18446744073709551615) :
  Calls Tryz.prog 160 #[.int .u64 n] w fun e w' => e = .returned (.int .i64 (unfoldS n)) /\ w = w' := by
 by_cases hn : n % 2 = 1
 ·have FS : Hid (bits .xor .i64 (-1) (n / 2) = unfoldS n) := by
   show _ = _
   rw [unfoldS, if_pos hn, xor_ones _ (by omega) (by omega)]
  have hb : (n % 2 == 1) = true := by simp [hn]
  clear hn
  go_enter Tryz.func160, Tryz.ntmps160
  go_wp2
  go_ret
  exact ⟨by rw [<- FS.out]; rfl, rfl⟩
 ·have FS : Hid (n / 2 = unfoldS n) := by show _ = _; rw [unfoldS, if_neg hn]
  have hb : (n % 2 == 1) = false := by simp [hn]
  clear hn
  go_enter Tryz.func160, Tryz.ntmps160
  go_wp2
  go_ret
  exact ⟨by rw [<- FS.out]; rfl, rfl⟩
theorem rsigned_any {w : World} {r : Nat} {ao : Option Addr} {N cap : Nat} {xs : List Int} {pos : Nat} {err : Int} (most : Int) (h : RInv w r ao N cap xs pos err) (hm : 0 <= most) (hm1 : most <= 9223372036854775807) (n : Int) (p : Nat) (e : Int) (ht : takeS xs pos err (foldS most) = (n, p, e)) (hn0 : 0 <= n) (hn1 : n <= 18446744073709551615) :
  Calls Tryz.prog 135 #[.pointer (some ⟨r, 0, none⟩), .int .i64 most] w fun x w' => x = .returned (.int .i64 (unfoldS n)) /\ RInv w' r ao N cap xs p e /\ ROnly w w' r := by
 have HT : Hid _ := ht
 have hm0 : -9223372036854775808 <= most := by omega
 clear ht
 go_enter Tryz.func135, Tryz.ntmps135
 go_wp2_with (first
  | (go_at_call 127; refine (fold_any most w hm0 hm1).mono ?_; rintro e2 w2 ⟨rfl, rfl⟩)
  | (go_at_call 132; refine (take_any (foldS most) h n p e HT.out).mono ?_; rintro e2 w2 ⟨rfl, hR2, hO2⟩)
  | (go_at_call 160; refine (unfold_any n w2 hn0 hn1).mono ?_; rintro e3 w3 ⟨rfl, rfl⟩))
 go_ret
 exact ⟨rfl, hR2, hO2⟩
theorem slice_mid (g N cap lo n : Nat) (h1 : lo + n <= N) (h2 : N <= cap) :
  ∃ ad c', (∀ w, (Instr.slice 55 (.slice (some ⟨g, 0, none⟩) N cap) (some (.int .i64 lo)) (some (.int .i64 ((lo : Int) + n))) none).run Tryz.prog w = .ok (.slice (some ad) n c') w) /\ ∀ w xs, RowAt w (some ⟨g, 0, none⟩) xs -> xs.length = N -> RowAt w (some ad) ((xs.drop lo).take n) := by
 obtain ⟨i0, hi, _, hz1, _⟩ := info_parts info5
 have hu : Tryz.prog.underlying 55 = some (.slice (Tryz.prog.elem 55)) := by kernel_rfl
 have he : Tryz.prog.elem 55 = 5 := by kernel_rfl
 have hrun : ∀ w : World, (Instr.slice 55 (.slice (some ⟨g, 0, none⟩) N cap) (some (.int .i64 lo)) (some (.int .i64 ((lo : Int) + n))) none).run Tryz.prog w = .ok (sliced (some ⟨g, 0, none⟩) lo (lo + n) cap 1) w := by
  intro w
  have := run_slice_lh (P := Tryz.prog) (w := w) 55 (some ⟨g, 0, none⟩) N cap hu .i64 .i64 lo ((lo : Int) + n) (by omega) (by omega) (by omega)
  rw [this, he]
  have e1 : (lo : Int).toNat = lo := by omega
  have e2 : ((lo : Int) + (n : Int)).toNat = lo + n := by omega
  rw [e1, e2]
  simp [sizeOf, typeInfo, hi, hz1]
 by_cases hcp : cap = lo
 ·refine ⟨⟨g, 0, none⟩, cap - lo, fun w => by rw [hrun w]; simp [sliced, hcp], fun w xs hr hx => ?_⟩
  obtain rfl : n = 0 := by omega
  simpa using RowAt.nil w (some ⟨g, 0, none⟩)
 ·refine ⟨⟨g, 0 + lo, none⟩, cap - lo, fun w => by rw [hrun w]; simp [sliced, hcp, add_none], fun w xs hr hx => ?_⟩
  exact (hr.drop lo).take n
def toStr (zs : List Int) : ByteArray := ⟨(zs.map fun x => UInt8.ofNat x.toNat).toArray⟩
theorem toStr_bytes (zs : List Int) (hb : isBytes zs) : strBytes (toStr zs) = zs := by
 simp only [strBytes, toStr, List.map_map, Function.comp_def]
 conv => rhs; rw [<- List.map_id zs]
 apply List.map_congr_left
 intro x hx
 have := hb x hx
 simp
 omega
theorem conv_str (w : World) (ad : Addr) (c : Nat) (zs : List Int) (hr : RowAt w (some ad) zs) : (convert 55 9 (.slice (some ad) zs.length c)).run Tryz.prog w = .ok (.string (toStr zs)) w := by
 have := run_convert_bytes_back (P := Tryz.prog) w 55 9 5 ad c (zs.map fun x => UInt8.ofNat x.toNat) Tryz.underlying55 Tryz.underlying5 Tryz.underlying9 (fun j hj => by
  have hj' : j < zs.length := by simpa using hj
  have hn := hr.news j (.int .u8 zs[j]) (by simp [hj'])
  rw [hn]
  have hbj := hr.1 zs[j] (List.getElem_mem hj')
  simp
  omega)
 simpa [toStr] using this
theorem rtext_ok {w : World} {r : Nat} {ao : Option Addr} {N cap : Nat} {xs : List Int} {pos : Nat} (most : Int) (h : RInv w r ao N cap xs pos 0) (hm0 : -9223372036854775808 <= most) (hm1 : most <= 9223372036854775807) (n s : Nat) (hc : countS xs pos 1 most = ((n : Int), (s : Int), 0)) :
  Calls Tryz.prog 130 #[.pointer (some ⟨r, 0, none⟩), .int .i64 most] w fun x w' => ∃ str : ByteArray, x = .returned (.string str) /\ strBytes str = (xs.drop (pos + s)).take n /\ RInv w' r ao N cap xs (pos + s + n) 0 /\ ROnly w w' r := by
 obtain ⟨_, f2⟩ := countS_facts xs h.row.1 pos h.pos 1 most n s 0 hc
 obtain ⟨g0, g1, g2, g3, g4, g5, g6, g7⟩ := f2 rfl
 have HC : Hid _ := hc
 have hs0 : ((s : Int) == 0) = false := by simp; omega
 have hspos : 0 < s := by omega
 have hq : pos + s + n <= xs.length := by simp at g6; omega
 have hl1 : (1 : Int) <= 9223372036854775807 := by decide
 have hps := h.pos
 have hlm := h.lim
 have hrl := h.lt
 have hN := h.len
 have hcp := h.cap
 have hqN : pos + s + n <= N := by omega
 have hqC : pos + s + n <= cap := by omega
 have hNl : N <= 140737488355328 := by omega
 clear hc f2 g0 g1 g2 g3 g5 g6 g7 hN hcp
 go_enter Tryz.func130, Tryz.ntmps130
 go_wp2_with (go_at_call 156; refine (pcount_eq 1 most h hm0 hm1 hl1 n s 0 HC.out).mono ?_; rintro e w2 ⟨rfl, hR2, hO2⟩; have hR3 := hR2.later (below_alloc w2 (.cells #[.int .u64 n, .int .i64 s] 231)); have hr2 := hR2.lt; have c2 := hR3.c2; have f2 := hR3.f2)
 go_quiet (fail)
 go_wp2
 obtain ⟨g, hao⟩ : ∃ g, ao = some ⟨g, 0, none⟩ := by
  rcases h.shape with e | e
  ·obtain ⟨b, off, he, _⟩ := h.row.2 (fun e' => by subst e'; simp at hq; omega)
   rw [e] at he; cases he
  ·exact e
 subst hao
 have hx4 := (hR3.drewN nq).setPos (pos + s + n) hq
 rw [Int.natCast_add, Int.natCast_add] at hx4
 have hO4 := (hO2.trans (ROnly.ofBelow (below_drewN (below_alloc w2 (.cells #[.int .u64 n, .int .i64 s] 231)) nq))).trans (ROnly.set _ r 2 (.int .i64 ((pos : Int) + s + n)))
 generalize (((w2.alloc (.cells #[.int .u64 n, .int .i64 s] 231)).drewN nq).setCell ⟨r, 2, none⟩ (.int .i64 ((pos : Int) + s + n))) = W at *
 obtain ⟨ad, c', hsl, hrow⟩ := slice_mid g N cap (pos + s) n (by have := h.len; omega) (by have := h.len; have := h.cap; omega)
 rw [Int.natCast_add] at hsl
 have hrw := fun m => hrow (W.drewN m) xs (hx4.drewN m).row hx4.len.symm
 have hzl : ((xs.drop (pos + s)).take n).length = n := by simp; omega
 have hcv := fun m => conv_str (W.drewN m) ad c' _ (hrw m)
 rw [hzl] at hcv
 have k1 := hx4.c1
 have k2 := hx4.c2
 have FB : Hid _ := toStr_bytes _ (hrw 0).1
 generalize toStr ((xs.drop (pos + s)).take n) = str at *
 clear hrow hrw hzl hR3 c2 f2 hR2 hO2
 go_quiet (fail)
 go_wp2
 go_ret
 exact ⟨str, rfl, FB.out, hx4.drewN _, hO4.trans (ROnly.ofBelow (below_drewN (Below.refl _ _) _))⟩
theorem takeS_err {xs : List Int} (hb : isBytes xs) {pos : Nat} (hpos : pos <= xs.length) {most n : Int} {p : Nat} {e : Int} (h : takeS xs pos 0 most = (n, p, e)) (he : e ≠ 0) : n = 0 /\ pos = p /\ e ≠ 12 := by
 rw [takeS, if_neg (by simp)] at h
 by_cases h1 : (peekS xs pos most).2.2 ≠ 0
 ·rw [if_pos h1] at h
  simp only [Prod.mk.injEq] at h
  obtain ⟨rfl, rfl, rfl⟩ := h
  refine ⟨rfl, rfl, ?_⟩
  obtain ⟨n1, s1, e1, hp⟩ : ∃ n s e, parse (xs.drop pos) = (n, s, e) := ⟨_, _, _, rfl⟩
  obtain ⟨hf, _⟩ := parse_facts (xs.drop pos) (isBytes_drop hb pos) n1 s1 e1 hp
  rw [peekS, hp]
  by_cases q1 : e1 = 0
  ·subst q1
   rw [if_neg (by simp)]
   by_cases q2 : most < n1
   ·rw [if_pos q2]; simp
   ·rw [if_neg q2]; simp
  ·rw [if_pos q1]
   show e1 ≠ 12
   omega
 ·rw [if_neg h1] at h
  simp only [Prod.mk.injEq] at h
  exact absurd h.2.2.symm he
theorem takeS_ok {xs : List Int} (hb : isBytes xs) {pos : Nat} (hpos : pos <= xs.length) {most n : Int} {p : Nat} (h : takeS xs pos 0 most = (n, p, 0)) : 0 <= n /\ n <= most /\ n <= 18446744073709551615 /\ pos < p /\ p <= xs.length /\ xs.take p = xs.take pos ++ enc 10 n := by
 rw [takeS, if_neg (by simp)] at h
 obtain ⟨n1, s1, e1, hp⟩ : ∃ n s e, peekS xs pos most = (n, s, e) := ⟨_, _, _, rfl⟩
 obtain ⟨_, f2⟩ := peekS_facts xs hb pos hpos most n1 s1 e1 hp
 rw [hp] at h
 by_cases h1 : e1 = 0
 ·subst h1
  rw [if_neg (by simp)] at h
  simp only [Prod.mk.injEq, and_true] at h
  obtain ⟨rfl, rfl⟩ := h
  obtain ⟨g1, g2, g3, g4, g5, g6, g7⟩ := f2 rfl
  obtain ⟨_, _, r, hr, hs⟩ := parse_back (xs.drop pos) (isBytes_drop hb pos) n1 s1 g7
  refine ⟨g4, g5, by omega, by omega, by omega, ?_⟩
  have e : s1.toNat = (enc 10 n1).length := by omega
  rw [e, List.take_add, hr, List.take_left]
 ·rw [if_pos h1] at h
  simp only [Prod.mk.injEq] at h
  exact absurd h.2.2 h1
theorem WInv.drewN {w : World} {p q : Nat} {v : Value} {xs : List Int} {err : Int} (h : WInv w p q v xs err) (n : Nat) : WInv (w.drewN n) p q v xs err := h.still fun _ => rfl
theorem rend_eq {w : World} {r : Nat} {ao : Option Addr} {N cap : Nat} {xs : List Int} {pos : Nat} {err : Int} (h : RInv w r ao N cap xs pos err) (a b : Int) (he : endS xs pos err = (a, b)) :
  Calls Tryz.prog 39 #[.pointer (some ⟨r, 0, none⟩)] w fun x w' => x = .returned (.tuple #[.int .i64 a, .int .i64 b]) /\ ∃ n, w' = w.drewN n := by
 have := rend_any h
 rw [he] at this
 exact this
structure PutV where
 what : Int
 V : Int
 N : Int
 s : ByteArray
def PutV.none : PutV := ⟨0, 0, 0, .empty⟩
structure PutV.ok (p : PutV) : Prop where
 w0 : -9223372036854775808 <= p.what
 w1 : p.what <= 9223372036854775807
 v0 : 0 <= p.V
 v1 : p.V <= 18446744073709551615
 n0 : -9223372036854775808 <= p.N
 n1 : p.N <= 9223372036854775807
 s1 : p.s.size <= 2000000
def PutsAt (w : World) (ao : Option Addr) (ps : List PutV) : Prop :=
 (∀ p ∈ ps, p.ok) /\ (ps ≠ [] -> ∃ b off, ao = some ⟨b, off, Option.none⟩ /\ ∀ i, i < ps.length ->
  w.cell? ⟨b, off + i * 4, Option.none⟩ = some (.int .i64 (ps.getD i .none).what) /\ w.cell? ⟨b, off + i * 4 + 1, Option.none⟩ = some (.int .u64 (ps.getD i .none).V) /\
  w.cell? ⟨b, off + i * 4 + 2, Option.none⟩ = some (.int .i64 (ps.getD i .none).N) /\ w.cell? ⟨b, off + i * 4 + 3, Option.none⟩ = some (.string (ps.getD i .none).s))
theorem PutsAt.later {w w' : World} {ao : Option Addr} {ps : List PutV} (h : PutsAt w ao ps) (hb : Below w.heap.size w w') : PutsAt w' ao ps := by
 refine ⟨h.1, fun hne => ?_⟩
 obtain ⟨b, off, he, hc⟩ := h.2 hne
 refine ⟨b, off, he, fun i hi => ?_⟩
 obtain ⟨c0, c1, c2, c3⟩ := hc i hi
 exact ⟨(hb.cell (p := ⟨b, off + i * 4, Option.none⟩) (World.block_lt_of_cell? w _ c0)).trans c0, (hb.cell (p := ⟨b, off + i * 4 + 1, Option.none⟩) (World.block_lt_of_cell? w _ c1)).trans c1, (hb.cell (p := ⟨b, off + i * 4 + 2, Option.none⟩) (World.block_lt_of_cell? w _ c2)).trans c2, (hb.cell (p := ⟨b, off + i * 4 + 3, Option.none⟩) (World.block_lt_of_cell? w _ c3)).trans c3⟩
theorem strBytes_inj {a b : ByteArray} (h : strBytes a = strBytes b) : a = b := by
 have : a.data.toList = b.data.toList := by
  unfold strBytes at h
  apply List.ext_getElem?
  intro i
  have hi := congrArg (·[i]?) h
  simp only [List.getElem?_map] at hi
  cases ha : a.data.toList[i]? <;> cases hb : b.data.toList[i]? <;> simp [ha, hb] at hi ⊢
  exact UInt8.toNat_inj.1 (by omega)
 cases a; cases b
 simp at this
 rw [this]
theorem takeS_enc (zs : List Int) (pos : Nat) (most n : Int) (t : List Int) (h : zs.drop pos = enc 10 n ++ t) (h0 : 0 <= n) (h1 : n < 18446744073709551616) (h2 : n <= most) : takeS zs pos 0 most = (n, pos + (enc 10 n).length, 0) := by
 have hp := parse_enc n t h0 h1
 have hk : peekS zs pos most = (n, ((enc 10 n).length : Int), 0) := by
  rw [peekS, h, hp, if_neg (by simp), if_neg (by simpa using h2)]
 rw [takeS, if_neg (by simp), hk, if_neg (by simp)]
 simp
theorem countS_enc (zs : List Int) (pos n : Nat) (most : Int) (u t : List Int) (h : zs.drop pos = enc 10 (n : Int) ++ (u ++ t)) (hu : u.length = n) (h1 : (n : Int) < 18446744073709551616) (h2 : (n : Int) <= most) : countS zs pos 1 most = ((n : Int), ((enc 10 (n : Int)).length : Int), 0) := by
 have hp := parse_enc n (u ++ t) (by omega) h1
 have hk : peekS zs pos most = ((n : Int), ((enc 10 (n : Int)).length : Int), 0) := by
  rw [peekS, h, hp, if_neg (by simp), if_neg (by simpa using h2)]
 have hl : zs.length - pos = (enc 10 (n : Int)).length + (n + t.length) := by
  have := congrArg List.length h
  simp [hu] at this
  omega
 have hne := enc_ne (n : Int)
 have hpos : 0 < (enc 10 (n : Int)).length := List.length_pos_iff.2 hne
 rw [countS, if_neg (by omega), hk, if_neg (by simp), if_neg]
 simp
 omega
end Go.Proofs.YthgnhdnmcjpdmaaGreatDoor.C
