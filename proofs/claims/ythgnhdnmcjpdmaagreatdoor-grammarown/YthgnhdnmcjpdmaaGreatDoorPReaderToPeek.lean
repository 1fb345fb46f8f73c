import Derived.Test.YthgnhdnmcjpdmaaGreatDoorPSameToSums0
namespace Go.Proofs.YthgnhdnmcjpdmaaGreatDoor.C
set_option linter.unusedVariables false
set_option maxRecDepth 100000
set_option maxHeartbeats 16000000
open Go.RowKit
structure RInv (w : World) (r : Nat) (ao : Option Addr) (N cap : Nat) (xs : List Int) (pos : Nat) (err : Int) : Prop where
 hr : w.heap[r]? = some (.cells #[.bool true, .slice ao N cap, .int .i64 pos, .int .i64 err] 151 (0, 0))
 len : N = xs.length
 row : RowAt w ao xs
 nil : ao = none -> cap = 0
 cap : xs.length <= cap
 pos : pos <= xs.length
 lim : xs.length <= 140737488355328
 shape : ao = none ∨ ∃ g, ao = some ⟨g, 0, none⟩
structure ROnly (w w' : World) (r : Nat) : Prop where
 os : w'.os = w.os
 tape : w'.tape = w.tape
 output : w'.output = w.output
 size : w.heap.size <= w'.heap.size
 block : ∀ k, k < w.heap.size -> k ≠ r -> w'.heap[k]? = w.heap[k]?
theorem ROnly.refl (w : World) (r : Nat) : ROnly w w r := ⟨rfl, rfl, rfl, Nat.le_refl _, fun _ _ _ => rfl⟩
theorem ROnly.trans {a b c : World} {r : Nat} (h : ROnly a b r) (k : ROnly b c r) : ROnly a c r :=
 ⟨k.os.trans h.os, k.tape.trans h.tape, k.output.trans h.output, Nat.le_trans h.size k.size, fun i hi hr => (k.block i (Nat.lt_of_lt_of_le hi h.size) hr).trans (h.block i hi hr)⟩
theorem ROnly.ofBelow {w w' : World} {r : Nat} (h : Below w.heap.size w w') : ROnly w w' r := ⟨h.os, h.tape, h.output, h.size, fun k hk _ => h.block k hk⟩
theorem ROnly.below {w w' : World} {r B : Nat} (h : ROnly w w' r) (hB : B <= r) (hw : B <= w.heap.size) : Below B w w' := ⟨h.os, h.tape, h.output, h.size, fun k hk => h.block k (by omega) (by omega)⟩
theorem ROnly.set (w : World) (r o : Nat) (u : Value) : ROnly w (w.setCell ⟨r, o, none⟩ u) r := ⟨rfl, rfl, rfl, by simp [World.setCell], fun k _ hk => Below.heap_setCell _ _ _ _ hk⟩
section
variable {w : World} {r : Nat} {ao : Option Addr} {N cap : Nat} {xs : List Int} {pos : Nat} {err : Int}
theorem RInv.c0 (h : RInv w r ao N cap xs pos err) : w.cell? ⟨r, 0, none⟩ = some (.bool true) := by simp [World.cell?, h.hr]
theorem RInv.c1 (h : RInv w r ao N cap xs pos err) : w.cell? ⟨r, 1, none⟩ = some (.slice ao N cap) := by simp [World.cell?, h.hr]
theorem RInv.c2 (h : RInv w r ao N cap xs pos err) : w.cell? ⟨r, 2, none⟩ = some (.int .i64 pos) := by simp [World.cell?, h.hr]
theorem RInv.c3 (h : RInv w r ao N cap xs pos err) : w.cell? ⟨r, 3, none⟩ = some (.int .i64 err) := by simp [World.cell?, h.hr]
theorem RInv.f2 (h : RInv w r ao N cap xs pos err) : w.frozen? ⟨r, 2, none⟩ = false := by simp [World.frozen?, h.hr]
theorem RInv.f3 (h : RInv w r ao N cap xs pos err) : w.frozen? ⟨r, 3, none⟩ = false := by simp [World.frozen?, h.hr]
theorem RInv.lt (h : RInv w r ao N cap xs pos err) : r < w.heap.size := lt_of_block h.hr
theorem RInv.apart (h : RInv w r ao N cap xs pos err) {b off : Nat} (e : ao = some ⟨b, off, none⟩) (hne : xs ≠ []) : b ≠ r := by
 intro hb
 subst hb
 obtain ⟨b', off', he, hc⟩ := h.row.2 hne
 rw [e] at he
 simp only [Option.some.injEq, Addr.mk.injEq, and_true] at he
 obtain ⟨rfl, rfl⟩ := he
 have h0 := hc 0 (List.length_pos_iff.2 hne)
 simp only [World.cell?, h.hr, Nat.add_zero] at h0
 match off, h0 with
 | 0, h0 => simp at h0
 | 1, h0 => simp at h0
 | 2, h0 => simp at h0
 | 3, h0 => simp at h0
 | n + 4, h0 => simp at h0
theorem RInv.rowOnly (h : RInv w r ao N cap xs pos err) {w' : World} (hb : ∀ k, k < w.heap.size -> k ≠ r -> w'.heap[k]? = w.heap[k]?) : RowAt w' ao xs := by
 refine ⟨h.row.1, fun hne => ?_⟩
 obtain ⟨b, off, he, hc⟩ := h.row.2 hne
 refine ⟨b, off, he, fun i hi => ?_⟩
 have hlt := World.block_lt_of_cell? w _ (hc i hi)
 exact (World.cell?_of_block (a := ⟨b, off + i, none⟩) (hb b hlt (h.apart he hne))).trans (hc i hi)
theorem RInv.kept (h : RInv w r ao N cap xs pos err) {w' : World} (hr : w'.heap[r]? = w.heap[r]?) (hb : ∀ k, k < w.heap.size -> k ≠ r -> w'.heap[k]? = w.heap[k]?) : RInv w' r ao N cap xs pos err :=
 ⟨hr.trans h.hr, h.len, h.rowOnly hb, h.nil, h.cap, h.pos, h.lim, h.shape⟩
theorem RInv.later (h : RInv w r ao N cap xs pos err) {w' : World} (hb : Below w.heap.size w w') : RInv w' r ao N cap xs pos err := h.kept (hb.block r h.lt) (fun k hk _ => hb.block k hk)
theorem RInv.drewN (h : RInv w r ao N cap xs pos err) (n : Nat) : RInv (w.drewN n) r ao N cap xs pos err := h.later (below_drewN (Below.refl _ _) n)
theorem RInv.setErr (h : RInv w r ao N cap xs pos err) (e : Int) : RInv (w.setCell ⟨r, 3, none⟩ (.int .i64 e)) r ao N cap xs pos e :=
 ⟨by rw [heap_set h.hr]; rfl, h.len, h.rowOnly (fun k _ hk => Below.heap_setCell _ _ _ _ hk), h.nil, h.cap, h.pos, h.lim, h.shape⟩
theorem RInv.setPos (h : RInv w r ao N cap xs pos err) (q : Nat) (hq : q <= xs.length) : RInv (w.setCell ⟨r, 2, none⟩ (.int .i64 q)) r ao N cap xs q err :=
 ⟨by rw [heap_set h.hr]; rfl, h.len, h.rowOnly (fun k _ hk => Below.heap_setCell _ _ _ _ hk), h.nil, h.cap, hq, h.lim, h.shape⟩
theorem rready_any (h : RInv w r ao N cap xs pos err) : Calls Tryz.prog 158 #[.pointer (some ⟨r, 0, none⟩)] w fun e w' => e = .returned (.bool (err == 0)) /\ w = w' := by
 have h0 := h.c0
 have h3 := h.c3
 go_enter Tryz.func158, Tryz.ntmps158
 go_wp2
 go_ret
 exact ⟨rfl, rfl⟩
theorem rat_any (h : RInv w r ao N cap xs pos err) : Calls Tryz.prog 129 #[.pointer (some ⟨r, 0, none⟩)] w fun e w' => e = .returned (.int .i64 pos) /\ w = w' := by
 have h2 := h.c2
 go_enter Tryz.func129, Tryz.ntmps129
 go_wp2
 go_ret
 exact ⟨rfl, rfl⟩
theorem rleft_any (h : RInv w r ao N cap xs pos err) : Calls Tryz.prog 103 #[.pointer (some ⟨r, 0, none⟩)] w fun e w' => e = .returned (.int .i64 ((N : Int) - pos)) /\ ∃ n, w' = w.drewN n := by
 have h1 := h.c1
 have h2 := h.c2
 have hp := h.pos
 have hl := h.lim
 have hlen := h.len
 have hpN : pos <= N := by omega
 have hN : N <= 140737488355328 := by omega
 clear hlen hp hl
 go_enter Tryz.func103, Tryz.ntmps103
 go_wp2
 go_quiet (fail)
 go_wp2
 go_ret
 exact ⟨rfl, _, rfl⟩
end
theorem rfail_ok {w : World} {r : Nat} {ao : Option Addr} {N cap : Nat} {xs : List Int} {pos : Nat} (e : Int) (h : RInv w r ao N cap xs pos 0) : Calls Tryz.prog 131 #[.pointer (some ⟨r, 0, none⟩), .int .i64 e] w fun x w' => x = .returned (.tuple #[]) /\ w' = w.setCell ⟨r, 3, none⟩ (.int .i64 e) := by
 have h3 := h.c3
 have hf := h.f3
 go_enter Tryz.func131, Tryz.ntmps131
 go_wp2_with (go_at_call 158; refine (rready_any h).mono ?_; rintro e w' ⟨rfl, rfl⟩)
 go_end0
 exact ⟨rfl, rfl⟩
theorem rfail_no {w : World} {r : Nat} {ao : Option Addr} {N cap : Nat} {xs : List Int} {pos : Nat} {err : Int} (e : Int) (h : RInv w r ao N cap xs pos err) (hne : (err == 0) = false) : Calls Tryz.prog 131 #[.pointer (some ⟨r, 0, none⟩), .int .i64 e] w fun x w' => x = .returned (.tuple #[]) /\ w = w' := by
 go_enter Tryz.func131, Tryz.ntmps131
 go_wp2_with (go_at_call 158; refine (rready_any h).mono ?_; rintro e w' ⟨rfl, rfl⟩)
 go_end0
 exact ⟨rfl, rfl⟩
theorem rmove_none {w : World} {r : Nat} : Calls Tryz.prog 157 #[.pointer (some ⟨r, 0, none⟩), .int .i64 0] w fun x w' => x = .returned (.tuple #[]) /\ w = w' := by
 go_enter Tryz.func157, Tryz.ntmps157
 go_wp2
 go_end0
 exact ⟨rfl, rfl⟩
theorem rmove_some {w : World} {r : Nat} {ao : Option Addr} {N cap : Nat} {xs : List Int} {pos : Nat} {err : Int} (s : Nat) (h : RInv w r ao N cap xs pos err) (h0 : 0 < s) (h1 : s <= 140737488355328) : Calls Tryz.prog 157 #[.pointer (some ⟨r, 0, none⟩), .int .i64 s] w fun x w' => x = .returned (.tuple #[]) /\ w' = w.setCell ⟨r, 2, none⟩ (.int .i64 ((pos + s : Nat) : Int)) := by
 have h2 := h.c2
 have hf := h.f2
 have hp : pos <= 140737488355328 := Nat.le_trans h.pos h.lim
 go_enter Tryz.func157, Tryz.ntmps157
 go_wp2
 go_end0
 exact ⟨rfl, by simp⟩
theorem newreader_none (w : World) : Calls Tryz.prog 37 #[.slice none 0 0] w fun e w' => e = .returned (.pointer (some ⟨w.heap.size, 0, none⟩)) /\ RInv w' w.heap.size none 0 0 [] 0 0 /\ Below w.heap.size w w' := by
 go_enter Tryz.func37, Tryz.ntmps37
 go_wp2_with (go_at_call 89; refine (clone_nil w).mono ?_; rintro e w' ⟨rfl, rfl⟩)
 go_ret
 exact ⟨rfl, ⟨heap_alloc_new _ _, rfl, RowAt.nil _ _, fun _ => rfl, Nat.le_refl _, Nat.le_refl _, by simp, .inl rfl⟩, below_alloc _ _⟩
theorem parseGo_enc : ∀ (f i : Nat) (acc m : Int) (r : List Int), f + i = 9 -> 0 <= acc -> 0 <= m -> acc + m * 128 ^ i < 18446744073709551616 -> (0 < i -> m ≠ 0) ->
  parseGo i acc (enc (f + 1) m ++ r) = (acc + m * 128 ^ i, (i : Int) + (enc (f + 1) m).length, 0) := by
 intro f
 induction f with
 | zero =>
  intro i acc m r hfi ha hm hlt hne
  obtain rfl : i = 9 := by omega
  have h9 : (128 : Int) ^ 9 = 9223372036854775808 := by decide
  rw [h9] at hlt
  have hm1 : m = 1 := by have := hne (by omega); omega
  subst hm1
  rw [enc_last 0 1 (by omega)]
  simp [parseGo]
 | succ f ih =>
  intro i acc m r hfi ha hm hlt hne
  have hi9 : ¬ (i = 9 /\ m % 128 + 128 ≠ 1) := fun h => by omega
  by_cases hbig : 128 <= m
  ·rw [enc_step (f + 1) m hbig]
   rw [List.cons_append, parseGo, if_neg hi9, if_pos (by omega)]
   have e1 : (m % 128 + 128) % 128 = m % 128 := by omega
   rw [e1]
   have hp := pow_pos' i
   have key : acc + m % 128 * 128 ^ i + m / 128 * 128 ^ (i + 1) = acc + m * 128 ^ i := by
    have e2 : m * 128 ^ i = (m % 128 + 128 * (m / 128)) * 128 ^ i := by rw [Int.emod_add_mul_ediv]
    rw [e2, Int.pow_succ, Int.add_mul]
    have e3 : m / 128 * (128 ^ i * 128) = 128 * (m / 128) * 128 ^ i := by
     rw [Int.mul_comm (128 ^ i) 128, <- Int.mul_assoc, Int.mul_comm (m / 128) 128]
    rw [e3, Int.add_assoc]
   have hnn : 0 <= m % 128 * 128 ^ i := Int.mul_nonneg (by omega) (by omega)
   have := ih (i + 1) (acc + m % 128 * 128 ^ i) (m / 128) r (by omega) (by omega) (by omega) (by rw [key]; exact hlt) (fun _ => by omega)
   rw [this, key]
   simp only [Prod.mk.injEq, List.length_cons, true_and, and_true]
   omega
  ·rw [enc_last (f + 1) m (by omega)]
   rw [List.cons_append, parseGo, if_neg (fun h => by omega), if_neg hbig, if_neg (fun h => hne h.2 h.1)]
   have e1 : m % 128 = m := by omega
   simp [e1]
theorem parse_enc (n : Int) (r : List Int) (h0 : 0 <= n) (h1 : n < 18446744073709551616) : parse (enc 10 n ++ r) = (n, ((enc 10 n).length : Int), 0) := by
 have := parseGo_enc 9 0 0 n r rfl (by omega) h0 (by simpa using h1) (fun h => by omega)
 simpa [parse] using this
theorem enc_parseGo (xs : List Int) (hb : isBytes xs) : ∀ (i : Nat) (acc : Int), i <= 9 -> ∀ n s, parseGo i acc xs = (n, s, 0) ->
  ∃ m : Int, 0 <= m /\ (0 < i -> m ≠ 0) /\ n = acc + m * 128 ^ i /\ ∃ r, xs = enc (9 - i + 1) m ++ r /\ s = (i : Int) + (enc (9 - i + 1) m).length := by
 induction xs with
 | nil => intro i acc _ n s h; simp [parseGo] at h
 | cons c r ih =>
  intro i acc hi n s h
  have hc := hb c (by simp)
  rw [parseGo] at h
  by_cases h9 : i = 9 /\ c ≠ 1
  ·rw [if_pos h9] at h; simp at h
  ·rw [if_neg h9] at h
   by_cases hbig : 128 <= c
   ·rw [if_pos hbig] at h
    have hi9 : i ≠ 9 := fun q => h9 ⟨q, by omega⟩
    obtain ⟨m, hm0, hmne, hn, r', hr, hs⟩ := ih (fun x hx => hb x (by simp [hx])) (i + 1) _ (by omega) n s h
    have hmne' := hmne (by omega)
    refine ⟨m * 128 + c % 128, by omega, fun _ => by omega, ?_, r', ?_, ?_⟩
    ·rw [hn, Int.pow_succ, Int.add_mul, Int.add_assoc, Int.add_comm (c % 128 * 128 ^ i), Int.mul_assoc, Int.mul_comm (128 ^ i) 128]
    ·have e : 9 - i + 1 = (9 - (i + 1) + 1) + 1 := by omega
     rw [e, enc_step _ _ (by omega), hr]
     have e1 : (m * 128 + c % 128) % 128 + 128 = c := by omega
     have e2 : (m * 128 + c % 128) / 128 = m := by omega
     rw [e1, e2]; rfl
    ·have e : 9 - i + 1 = (9 - (i + 1) + 1) + 1 := by omega
     rw [e, enc_step _ _ (by omega), hs]
     have e2 : (m * 128 + c % 128) / 128 = m := by omega
     rw [e2]
     simp only [List.length_cons]
     omega
   ·rw [if_neg hbig] at h
    by_cases hz : c = 0 /\ 0 < i
    ·rw [if_pos hz] at h; simp at h
    ·rw [if_neg hz] at h
     simp only [Prod.mk.injEq, and_true] at h
     refine ⟨c, hc.1, fun hi0 e => hz ⟨e, hi0⟩, ?_, r, ?_, ?_⟩
     ·rw [<- h.1, show c % 128 = c by omega]
     ·rw [enc_last _ _ (by omega)]; rfl
     ·rw [enc_last _ _ (by omega), <- h.2]; rfl
theorem parse_back (xs : List Int) (hb : isBytes xs) (n s : Int) (h : parse xs = (n, s, 0)) : 0 <= n /\ n < 18446744073709551616 /\ ∃ r, xs = enc 10 n ++ r /\ s = (enc 10 n).length := by
 obtain ⟨_, hf⟩ := parse_facts xs hb n s 0 h
 obtain ⟨m, hm0, _, hn, r, hr, hs⟩ := enc_parseGo xs hb 0 0 (by omega) n s h
 have : n = m := by simpa using hn
 subst this
 exact ⟨(hf rfl).2.2.2.1, (hf rfl).2.2.2.2, r, by simpa using hr, by simpa using hs⟩
theorem join_sum (s : Int) (h0 : 0 <= s) (h1 : s <= 4294967295) : joinSum (sumBytes s) = s := by
 simp only [joinSum, sumBytes, List.foldl_cons, List.foldl_nil]
 omega
theorem sum_join (a b c d : Int) (h : isBytes [a, b, c, d]) : sumBytes (joinSum [a, b, c, d]) = [a, b, c, d] := by
 have ha := h a (by simp)
 have hb := h b (by simp)
 have hc := h c (by simp)
 have hd := h d (by simp)
 simp only [joinSum, sumBytes, List.foldl_cons, List.foldl_nil, List.cons.injEq, and_true]
 omega
theorem check_self (k : Int) (r : List Int) : checkHead k (headBytes k ++ r) = (0, 0) := by simp [checkHead, headBytes, chk]
theorem open_frame (k : Int) (xs : List Int) (hl : xs.length <= 16777216) : openS k (frame k xs) = (xs, 0, 0) := by
 have hf : frame k xs = headBytes k ++ (enc 10 xs.length ++ (xs ++ sumBytes (adler (lead k xs)))) := by simp [frame, lead]
 have hd : (frame k xs).drop 4 = enc 10 xs.length ++ (xs ++ sumBytes (adler (lead k xs))) := by rw [hf]; rfl
 have hp := parse_enc (xs.length : Int) (xs ++ sumBytes (adler (lead k xs))) (by omega) (by omega)
 have hc := check_self k (enc 10 xs.length ++ (xs ++ sumBytes (adler (lead k xs))))
 have hlen : (frame k xs).length = 4 + (enc 10 (xs.length : Int)).length + xs.length + 4 := by rw [hf]; simp [headBytes, sumBytes]; omega
 have hll : (lead k xs).length = 4 + (enc 10 (xs.length : Int)).length + xs.length := by simp [lead, headBytes]; omega
 have hT : (4 + ((enc 10 (xs.length : Int)).length : Int) + (xs.length : Int)).toNat = 4 + (enc 10 (xs.length : Int)).length + xs.length := by omega
 have hF : (4 + ((enc 10 (xs.length : Int)).length : Int)).toNat = 4 + (enc 10 (xs.length : Int)).length := by omega
 have htake : (frame k xs).take (4 + (enc 10 (xs.length : Int)).length + xs.length) = lead k xs := by
  rw [<- hll]; unfold frame; exact List.take_left
 have hdrop : (frame k xs).drop (4 + (enc 10 (xs.length : Int)).length + xs.length) = sumBytes (adler (lead k xs)) := by
  rw [<- hll]; unfold frame; exact List.drop_left
 have hbody : (lead k xs).drop (4 + (enc 10 (xs.length : Int)).length) = xs := by
  have e : 4 + (enc 10 (xs.length : Int)).length = (headBytes k ++ enc 10 (xs.length : Int)).length := by simp [headBytes]; omega
  rw [e]; unfold lead; exact List.drop_left
 have hs := join_sum (adler (lead k xs)) (adler_bd _).1 (adler_bd _).2
 rw [<- hf] at hc
 rw [openS, hc, if_neg (by simp), hd, hp, if_neg (by simp), if_neg (by simp), if_neg (by simp; omega), if_neg (by rw [hlen]; simp), if_neg (by rw [hlen]; simp)]
 simp only [hT, hF]
 rw [htake, hdrop, if_neg (by rw [hs]; simp), hbody]
theorem four {l : List Int} (h : l.length = 4) : ∃ a b c d, l = [a, b, c, d] := by
 match l, h with
 | [a, b, c, d], _ => exact ⟨a, b, c, d, rfl⟩
theorem frame_open (k : Int) (xs : List Int) (hb : isBytes xs) (b : List Int) (at' : Int) (h : openS k xs = (b, 0, at')) : frame k b = xs /\ b.length <= 16777216 /\ isBytes b /\ at' = 0 := by
 rw [openS] at h
 by_cases h1 : (checkHead k xs).1 = 0
 ·rw [if_neg (by simp [h1])] at h
  obtain ⟨rest, hx, _⟩ := chk_none k xs h1
  have hd : xs.drop 4 = rest := by rw [hx]; rfl
  obtain ⟨n, s, ep, hp⟩ : ∃ n s e, parse (xs.drop 4) = (n, s, e) := ⟨_, _, _, rfl⟩
  rw [hp] at h
  by_cases h2 : ep = 11
  ·rw [if_pos h2] at h; simp at h
  ·rw [if_neg h2] at h
   by_cases h3 : ep = 0
   ·subst h3
    rw [if_neg (by simp)] at h
    by_cases h4 : 16777216 < n
    ·rw [if_pos h4] at h; simp at h
    ·rw [if_neg h4] at h
     by_cases h5 : (xs.length : Int) < 4 + s + n + 4
     ·rw [if_pos h5] at h; simp at h
     ·rw [if_neg h5] at h
      by_cases h6 : 4 + s + n + 4 < (xs.length : Int)
      ·rw [if_pos h6] at h; simp at h
      ·rw [if_neg h6] at h
       by_cases h7 : joinSum (xs.drop (4 + s + n).toNat) ≠ adler (xs.take (4 + s + n).toNat)
       ·rw [if_pos h7] at h; simp at h
       ·rw [if_neg h7] at h
        simp only [Prod.mk.injEq, true_and] at h
        obtain ⟨hbody, hat⟩ := h
        have h7' := Classical.not_not.1 h7
        have hbr : isBytes (xs.drop 4) := isBytes_drop hb 4
        obtain ⟨hn0, hn1, r, hr, hs⟩ := parse_back (xs.drop 4) hbr n s hp
        obtain ⟨m, rfl⟩ := Int.eq_ofNat_of_zero_le hn0
        subst hs
        have hT : (4 + ((enc 10 (m : Int)).length : Int) + (m : Int)).toNat = 4 + (enc 10 (m : Int)).length + m := by omega
        have hF : (4 + ((enc 10 (m : Int)).length : Int)).toNat = 4 + (enc 10 (m : Int)).length := by omega
        rw [hT] at h7' hbody
        rw [hF] at hbody
        have hxs : xs = headBytes k ++ (enc 10 (m : Int) ++ r) := by rw [hx, <- hr, hd]
        have hrl : r.length = m + 4 := by
         have := congrArg List.length hxs
         simp [headBytes] at this
         omega
        have e0 : (headBytes k ++ enc 10 (m : Int)).length = 4 + (enc 10 (m : Int)).length := by simp [headBytes]; omega
        have hxs' : xs = headBytes k ++ enc 10 (m : Int) ++ r := by rw [hxs, List.append_assoc]
        have htk : xs.take (4 + (enc 10 (m : Int)).length + m) = headBytes k ++ enc 10 (m : Int) ++ r.take m := by
         rw [hxs', <- e0]; exact List.take_length_add_append _
        have hdr : xs.drop (4 + (enc 10 (m : Int)).length + m) = r.drop m := by
         rw [hxs', <- e0]; exact List.drop_length_add_append _
        rw [htk, <- e0, List.drop_left] at hbody
        rw [htk, hdr] at h7'
        have hml : (r.take m).length = m := by simp; omega
        obtain ⟨q1, q2, q3, q4, hq⟩ := four (l := r.drop m) (by simp; omega)
        have hbr' : isBytes r := fun x hx => hb x (by rw [hxs]; simp [hx])
        have hsj := sum_join q1 q2 q3 q4 (hq ▸ isBytes_drop hbr' m)
        rw [<- hq, h7'] at hsj
        have hlead : lead k b = headBytes k ++ enc 10 (m : Int) ++ r.take m := by
         rw [<- hbody]; unfold lead; rw [hml]
        refine ⟨?_, by rw [<- hbody, hml]; omega, by rw [<- hbody]; exact isBytes_take hbr' m, hat.symm⟩
        unfold frame
        rw [hlead, hsj, List.append_assoc _ (r.take m), List.take_append_drop, <- hxs']
   ·rw [if_pos h3] at h
    simp only [Prod.mk.injEq] at h
    exact absurd h.2.1 h3
 ·rw [if_pos h1] at h
  simp only [Prod.mk.injEq] at h
  exact absurd h.2.1 h1
theorem slice_from {w0 : World} {r : Nat} {ao : Option Addr} {N cap : Nat} {xs : List Int} {pos : Nat} {err : Int} (h : RInv w0 r ao N cap xs pos err) :
  ∃ ao' c', (∀ w, (Instr.slice 55 (.slice ao N cap) (some (.int .i64 pos)) none none).run Tryz.prog w = .ok (.slice ao' (N - pos) c') w) /\ ∀ w, RowAt w ao xs -> RowAt w ao' (xs.drop pos) := by
 have hN := h.len
 have hp := h.pos
 have hc := h.cap
 obtain ⟨i0, hi, _, hz1, _⟩ := info_parts info5
 have hu : Tryz.prog.underlying 55 = some (.slice (Tryz.prog.elem 55)) := by kernel_rfl
 have he : Tryz.prog.elem 55 = 5 := by kernel_rfl
 have hrun : ∀ w : World, (Instr.slice 55 (.slice ao N cap) (some (.int .i64 pos)) none none).run Tryz.prog w = .ok (sliced ao pos N cap 1) w := by
  intro w
  have := run_slice_l (P := Tryz.prog) (w := w) 55 ao N cap hu .i64 pos (by omega) (by omega)
  rw [this, he]
  simp [sizeOf, typeInfo, hi, hz1]
 refine ⟨_, _, fun w => by rw [hrun w]; rfl, fun w hr => ?_⟩
 by_cases hcp : cap = pos
 ·rw [if_pos hcp, List.drop_eq_nil_of_le (by omega)]
  exact RowAt.nil _ _
 ·rw [if_neg hcp]
  rcases h.shape with rfl | ⟨g, rfl⟩
  ·have hx : xs = [] := by
    by_cases hx : xs = []
    ·exact hx
    ·obtain ⟨b, off, he, _⟩ := hr.2 hx; cases he
   subst hx
   simpa using RowAt.nil w none
  ·simp only [Option.map_some, Nat.mul_one]
   rw [add_none]
   exact hr.drop pos
theorem parsenum_q (ao : Option Addr) (N cap : Nat) (xs : List Int) (w : World) (n s e : Int) (hp : parse xs = (n, s, e)) (hN : N = xs.length) (hl : xs.length <= 140737488355328) (hr : RowAt w ao xs) :
  Calls Tryz.prog 94 #[.slice ao N cap] w fun r w' => r = .returned (.tuple #[.int .u64 n, .int .i64 s, .int .i64 e]) /\ w' = w :=
 (parsenum_eq ao N cap xs w n s e hp hN hl hr).mono fun _ _ h => ⟨h.1, h.2.symm⟩
theorem RInv.patched {w wA wB : World} {r : Nat} {ao : Option Addr} {N cap : Nat} {xs : List Int} {p0 pos : Nat} {e0 err : Int} (h0 : RInv w r ao N cap xs p0 e0) (hA : RInv wA r ao N cap xs pos err) (hb : Below w.heap.size wA wB) : RInv wB r ao N cap xs pos err := by
 refine ⟨(hb.block r h0.lt).trans hA.hr, hA.len, ⟨hA.row.1, fun hne => ?_⟩, hA.nil, hA.cap, hA.pos, hA.lim, hA.shape⟩
 obtain ⟨b, off, he, hc⟩ := hA.row.2 hne
 obtain ⟨b', off', he', hc'⟩ := h0.row.2 hne
 rw [he] at he'
 simp only [Option.some.injEq, Addr.mk.injEq, and_true] at he'
 obtain ⟨rfl, rfl⟩ := he'
 exact ⟨b, off, he, fun i hi => (hb.cell (p := ⟨b, off + i, none⟩) (World.block_lt_of_cell? w _ (hc' i hi))).trans (hc i hi)⟩
theorem ROnly.patched {w wA wB : World} {r : Nat} (h : ROnly w wA r) (hb : Below w.heap.size wA wB) : ROnly w wB r :=
 ⟨hb.os.trans h.os, hb.tape.trans h.tape, hb.output.trans h.output, Nat.le_trans h.size hb.size, fun k hk hr => (hb.block k hk).trans (h.block k hk hr)⟩
theorem two_sets {w wA : World} (o : Nat) (u v : Value) (o' : Nat) : Below w.heap.size wA ((wA.setCell ⟨w.heap.size, o, none⟩ u).setCell ⟨w.heap.size, o', none⟩ v) :=
 ((Below.refl _ _).setCell (p := ⟨w.heap.size, o, none⟩) (Nat.le_refl _) u).setCell (p := ⟨w.heap.size, o', none⟩) (Nat.le_refl _) v
def peekS (xs : List Int) (pos : Nat) (most : Int) : Int × Int × Int :=
 if (parse (xs.drop pos)).2.2 ≠ 0 then (0, 0, (parse (xs.drop pos)).2.2)
 else if most < (parse (xs.drop pos)).1 then (0, 0, 4)
 else ((parse (xs.drop pos)).1, (parse (xs.drop pos)).2.1, 0)
def PeekEnds (r : Nat) (ao : Option Addr) (N cap : Nat) (xs : List Int) (pos : Nat) (n s err : Int) (w : World) (e : Ending) (w' : World) : Prop :=
 e = .returned (.agg #[.int .u64 n, .int .i64 s]) /\ RInv w' r ao N cap xs pos err /\ ROnly w w' r
theorem peek_none {w : World} {r : Nat} {ao : Option Addr} {N cap : Nat} {xs : List Int} {pos : Nat} {err : Int} (most : Int) (h : RInv w r ao N cap xs pos err) (hne : (err == 0) = false) :
  Calls Tryz.prog 159 #[.pointer (some ⟨r, 0, none⟩), .int .u64 most] w (PeekEnds r ao N cap xs pos 0 0 err w) := by
 have h1 := h.later (below_alloc w (.cells #[.int .u64 0, .int .i64 0] 231))
 go_enter Tryz.func159, Tryz.ntmps159
 go_wp2_with (go_at_call 158; refine (rready_any h1).mono ?_; rintro e w' ⟨rfl, rfl⟩)
 go_returns
 exact ⟨rfl, h1, ROnly.ofBelow (below_alloc _ _)⟩
theorem peek_err {w : World} {r : Nat} {ao : Option Addr} {N cap : Nat} {xs : List Int} {pos : Nat} (most : Int) (h : RInv w r ao N cap xs pos 0) (n s ep : Int) (hp : parse (xs.drop pos) = (n, s, ep)) (hne : ep ≠ 0) :
  Calls Tryz.prog 159 #[.pointer (some ⟨r, 0, none⟩), .int .u64 most] w (PeekEnds r ao N cap xs pos 0 0 ep w) := by
 have h1 := h.later (below_alloc w (.cells #[.int .u64 0, .int .i64 0] 231))
 have c1 := h1.c1
 have c2 := h1.c2
 have hrw := h1.lt
 obtain ⟨ao', c', hsl, hrow⟩ := slice_from h
 have HR : Hid _ := hrow
 have HP : Hid _ := hp
 have HN : Hid (N - pos = (xs.drop pos).length) := by show _ = _; rw [h.len]; simp
 have HL : Hid ((xs.drop pos).length <= 140737488355328) := by show _ <= _; have := h.lim; simp; omega
 have hb : (ep == 0) = false := by simpa using hne
 have hb' : (ep != 0) = true := by simpa using hne
 clear hrow hp hne
 go_enter Tryz.func159, Tryz.ntmps159
 go_wp2_with (go_at_call 158; refine (rready_any h1).mono ?_; rintro e w' ⟨rfl, rfl⟩)
 go_quiet ((go_at_call 94; exact Calls.quiet_of_same (parsenum_q _ _ _ (xs.drop pos) _ n s ep HP.out HN.out HL.out (HR.out _ (h1.drewN _).row))))
 go_wp2_with (go_at_call 131; refine (rfail_ok ep (h1.drewN _)).mono ?_; rintro e w' ⟨rfl, rfl⟩)
 go_returns
 exact ⟨rfl, h.patched ((h1.drewN _).setErr ep) (two_sets _ _ _ _), ((ROnly.ofBelow (below_drewN (below_alloc _ _) _)).trans (ROnly.set _ _ _ _)).patched (two_sets _ _ _ _)⟩
theorem peek_big {w : World} {r : Nat} {ao : Option Addr} {N cap : Nat} {xs : List Int} {pos : Nat} (most : Int) (h : RInv w r ao N cap xs pos 0) (n s : Int) (hp : parse (xs.drop pos) = (n, s, 0)) (hn : most < n) :
  Calls Tryz.prog 159 #[.pointer (some ⟨r, 0, none⟩), .int .u64 most] w (PeekEnds r ao N cap xs pos 0 0 4 w) := by
 have h1 := h.later (below_alloc w (.cells #[.int .u64 0, .int .i64 0] 231))
 have c1 := h1.c1
 have c2 := h1.c2
 have hrw := h1.lt
 obtain ⟨ao', c', hsl, hrow⟩ := slice_from h
 have HR : Hid _ := hrow
 have HP : Hid _ := hp
 have HN : Hid (N - pos = (xs.drop pos).length) := by show _ = _; rw [h.len]; simp
 have HL : Hid ((xs.drop pos).length <= 140737488355328) := by show _ <= _; have := h.lim; simp; omega
 clear hrow hp
 go_enter Tryz.func159, Tryz.ntmps159
 go_wp2_with (go_at_call 158; refine (rready_any h1).mono ?_; rintro e w' ⟨rfl, rfl⟩)
 go_quiet ((go_at_call 94; exact Calls.quiet_of_same (parsenum_q _ _ _ (xs.drop pos) _ n s 0 HP.out HN.out HL.out (HR.out _ (h1.drewN _).row))))
 go_wp2_with (go_at_call 131; refine (rfail_ok 4 (h1.drewN _)).mono ?_; rintro e w' ⟨rfl, rfl⟩)
 go_returns
 exact ⟨rfl, h.patched ((h1.drewN _).setErr 4) (two_sets _ _ _ _), ((ROnly.ofBelow (below_drewN (below_alloc _ _) _)).trans (ROnly.set _ _ _ _)).patched (two_sets _ _ _ _)⟩
theorem peek_ok {w : World} {r : Nat} {ao : Option Addr} {N cap : Nat} {xs : List Int} {pos : Nat} (most : Int) (h : RInv w r ao N cap xs pos 0) (n s : Int) (hp : parse (xs.drop pos) = (n, s, 0)) (hn : ¬ most < n) :
  Calls Tryz.prog 159 #[.pointer (some ⟨r, 0, none⟩), .int .u64 most] w (PeekEnds r ao N cap xs pos n s 0 w) := by
 have h1 := h.later (below_alloc w (.cells #[.int .u64 0, .int .i64 0] 231))
 have c1 := h1.c1
 have c2 := h1.c2
 have hrw := h1.lt
 obtain ⟨ao', c', hsl, hrow⟩ := slice_from h
 have HR : Hid _ := hrow
 have HP : Hid _ := hp
 have HN : Hid (N - pos = (xs.drop pos).length) := by show _ = _; rw [h.len]; simp
 have HL : Hid ((xs.drop pos).length <= 140737488355328) := by show _ <= _; have := h.lim; simp; omega
 clear hrow hp
 go_enter Tryz.func159, Tryz.ntmps159
 go_wp2_with (go_at_call 158; refine (rready_any h1).mono ?_; rintro e w' ⟨rfl, rfl⟩)
 go_quiet ((go_at_call 94; exact Calls.quiet_of_same (parsenum_q _ _ _ (xs.drop pos) _ n s 0 HP.out HN.out HL.out (HR.out _ (h1.drewN _).row))))
 go_wp2
 go_returns
 exact ⟨rfl, h.patched (h1.drewN _) (two_sets _ _ _ _), (ROnly.ofBelow (below_drewN (below_alloc _ _) _)).patched (two_sets _ _ _ _)⟩
theorem peek_any {w : World} {r : Nat} {ao : Option Addr} {N cap : Nat} {xs : List Int} {pos : Nat} (most : Int) (h : RInv w r ao N cap xs pos 0) :
  Calls Tryz.prog 159 #[.pointer (some ⟨r, 0, none⟩), .int .u64 most] w (PeekEnds r ao N cap xs pos (peekS xs pos most).1 (peekS xs pos most).2.1 (peekS xs pos most).2.2 w) := by
 obtain ⟨n, s, ep, hp⟩ : ∃ n s e, parse (xs.drop pos) = (n, s, e) := ⟨_, _, _, rfl⟩
 rw [peekS, hp]
 by_cases h1 : ep = 0
 ·subst h1
  rw [if_neg (by simp)]
  by_cases h2 : most < n
  ·rw [if_pos h2]; exact peek_big most h n s hp h2
  ·rw [if_neg h2]; exact peek_ok most h n s hp h2
 ·rw [if_pos h1]; exact peek_err most h n s ep hp h1
end Go.Proofs.YthgnhdnmcjpdmaaGreatDoor.C
