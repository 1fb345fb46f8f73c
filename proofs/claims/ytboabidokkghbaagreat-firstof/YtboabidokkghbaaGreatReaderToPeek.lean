import Derived.Test.YtboabidokkghbaaGreatSameToSums0
namespace Go.Proofs.YtboabidokkghbaaGreat.C
set_option linter.unusedVariables false
open Go.RowKit

/-- Of the old blocks r alone may have turned. -/
structure ROnly (w w' : World) (r : Nat) : Prop where
  os : w'.os = w.os
  tape : w'.tape = w.tape
  output : w'.output = w.output
  size : w.heap.size ≤ w'.heap.size
  block : ∀ k, k < w.heap.size → k ≠ r → w'.heap[k]? = w.heap[k]?
theorem ROnly.refl (w : World) (r : Nat) : ROnly w w r := ⟨rfl, rfl, rfl, Nat.le_refl _, fun _ _ _ => rfl⟩
theorem ROnly.trans {a b c : World} {r : Nat} (h : ROnly a b r) (k : ROnly b c r) : ROnly a c r :=
  ⟨k.os.trans h.os, k.tape.trans h.tape, k.output.trans h.output, Nat.le_trans h.size k.size, fun i hi hr => (k.block i (Nat.lt_of_lt_of_le hi h.size) hr).trans (h.block i hi hr)⟩
theorem ROnly.ofBelow {w w' : World} {r : Nat} (h : Below w.heap.size w w') : ROnly w w' r := ⟨h.os, h.tape, h.output, h.size, fun k hk _ => h.block k hk⟩
theorem ROnly.below {w w' : World} {r B : Nat} (h : ROnly w w' r) (hB : B ≤ r) (hw : B ≤ w.heap.size) : Below B w w' := ⟨h.os, h.tape, h.output, h.size, fun k hk => h.block k (by omega) (by omega)⟩
theorem ROnly.set (w : World) (r o : Nat) (u : Value) : ROnly w (w.setCell ⟨r, o, none⟩ u) r := ⟨rfl, rfl, rfl, by simp [World.setCell], fun k _ hk => Below.heap_setCell _ _ _ _ hk⟩
section
variable {w : World} {r : Nat} {ao : Option Addr} {N cap : Nat} {xs : List Int} {pos : Nat} {err : Int}
end
end Go.Proofs.YtboabidokkghbaaGreat.C
namespace Go.Proofs.YtboabidokkghbaaGreat.C
set_option linter.unusedVariables false
open Go.RowKit

theorem parseGo_enc : ∀ (f i : Nat) (acc m : Int) (r : List Int), f + i = 9 → 0 ≤ acc → 0 ≤ m → acc + m * 128 ^ i < 18446744073709551616 → (0 < i → m ≠ 0) →
    parseGo i acc (enc (f + 1) m ++ r) = (acc + m * 128 ^ i, (i : Int) + (enc (f + 1) m).length, 0) := by
  intro f
  induction f with
  | zero =>
    intro i acc m r hfi ha hm hlt hne
    obtain rfl : i = 9 := by omega
    have h9 : (128 : Int) ^ 9 = 9223372036854775808 := by decide
    rw [h9] at hlt
    have hm1 : m = 1 := by have := hne (by omega); omega
    subst hm1
    rw [enc_last 0 1 (by omega)]
    simp [parseGo]
  | succ f ih =>
    intro i acc m r hfi ha hm hlt hne
    have hi9 : ¬ (i = 9 ∧ m % 128 + 128 ≠ 1) := fun h => by omega
    by_cases hbig : 128 ≤ m
    · rw [enc_step (f + 1) m hbig]
      rw [List.cons_append, parseGo, if_neg hi9, if_pos (by omega)]
      have e1 : (m % 128 + 128) % 128 = m % 128 := by omega
      rw [e1]
      have hp := pow_pos' i
      have key : acc + m % 128 * 128 ^ i + m / 128 * 128 ^ (i + 1) = acc + m * 128 ^ i := by
        have e2 : m * 128 ^ i = (m % 128 + 128 * (m / 128)) * 128 ^ i := by rw [Int.emod_add_mul_ediv]
        rw [e2, Int.pow_succ, Int.add_mul]
        have e3 : m / 128 * (128 ^ i * 128) = 128 * (m / 128) * 128 ^ i := by
          rw [Int.mul_comm (128 ^ i) 128, ← Int.mul_assoc, Int.mul_comm (m / 128) 128]
        rw [e3, Int.add_assoc]
      have hnn : 0 ≤ m % 128 * 128 ^ i := Int.mul_nonneg (by omega) (by omega)
      have := ih (i + 1) (acc + m % 128 * 128 ^ i) (m / 128) r (by omega) (by omega) (by omega) (by rw [key]; exact hlt) (fun _ => by omega)
      rw [this, key]
      simp only [Prod.mk.injEq, List.length_cons, true_and, and_true]
      omega
    · rw [enc_last (f + 1) m (by omega)]
      rw [List.cons_append, parseGo, if_neg (fun h => by omega), if_neg hbig, if_neg (fun h => hne h.2 h.1)]
      have e1 : m % 128 = m := by omega
      simp [e1]
theorem parse_enc (n : Int) (r : List Int) (h0 : 0 ≤ n) (h1 : n < 18446744073709551616) : parse (enc 10 n ++ r) = (n, ((enc 10 n).length : Int), 0) := by
  have := parseGo_enc 9 0 0 n r rfl (by omega) h0 (by simpa using h1) (fun h => by omega)
  simpa [parse] using this

theorem enc_parseGo (xs : List Int) (hb : isBytes xs) : ∀ (i : Nat) (acc : Int), i ≤ 9 → ∀ n s, parseGo i acc xs = (n, s, 0) →
    ∃ m : Int, 0 ≤ m ∧ (0 < i → m ≠ 0) ∧ n = acc + m * 128 ^ i ∧ ∃ r, xs = enc (9 - i + 1) m ++ r ∧ s = (i : Int) + (enc (9 - i + 1) m).length := by
  induction xs with
  | nil => intro i acc _ n s h; simp [parseGo] at h
  | cons c r ih =>
    intro i acc hi n s h
    have hc := hb c (by simp)
    rw [parseGo] at h
    by_cases h9 : i = 9 ∧ c ≠ 1
    · rw [if_pos h9] at h; simp at h
    · rw [if_neg h9] at h
      by_cases hbig : 128 ≤ c
      · rw [if_pos hbig] at h
        have hi9 : i ≠ 9 := fun q => h9 ⟨q, by omega⟩
        obtain ⟨m, hm0, hmne, hn, r', hr, hs⟩ := ih (fun x hx => hb x (by simp [hx])) (i + 1) _ (by omega) n s h
        have hmne' := hmne (by omega)
        refine ⟨m * 128 + c % 128, by omega, fun _ => by omega, ?_, r', ?_, ?_⟩
        · rw [hn, Int.pow_succ, Int.add_mul, Int.add_assoc, Int.add_comm (c % 128 * 128 ^ i), Int.mul_assoc, Int.mul_comm (128 ^ i) 128]
        · have e : 9 - i + 1 = (9 - (i + 1) + 1) + 1 := by omega
          rw [e, enc_step _ _ (by omega), hr]
          have e1 : (m * 128 + c % 128) % 128 + 128 = c := by omega
          have e2 : (m * 128 + c % 128) / 128 = m := by omega
          rw [e1, e2]; rfl
        · have e : 9 - i + 1 = (9 - (i + 1) + 1) + 1 := by omega
          rw [e, enc_step _ _ (by omega), hs]
          have e2 : (m * 128 + c % 128) / 128 = m := by omega
          rw [e2]
          simp only [List.length_cons]
          omega
      · rw [if_neg hbig] at h
        by_cases hz : c = 0 ∧ 0 < i
        · rw [if_pos hz] at h; simp at h
        · rw [if_neg hz] at h
          simp only [Prod.mk.injEq, and_true] at h
          refine ⟨c, hc.1, fun hi0 e => hz ⟨e, hi0⟩, ?_, r, ?_, ?_⟩
          · rw [← h.1, show c % 128 = c by omega]
          · rw [enc_last _ _ (by omega)]; rfl
          · rw [enc_last _ _ (by omega), ← h.2]; rfl
theorem parse_back (xs : List Int) (hb : isBytes xs) (n s : Int) (h : parse xs = (n, s, 0)) : 0 ≤ n ∧ n < 18446744073709551616 ∧ ∃ r, xs = enc 10 n ++ r ∧ s = (enc 10 n).length := by
  obtain ⟨_, hf⟩ := parse_facts xs hb n s 0 h
  obtain ⟨m, hm0, _, hn, r, hr, hs⟩ := enc_parseGo xs hb 0 0 (by omega) n s h
  have : n = m := by simpa using hn
  subst this
  exact ⟨(hf rfl).2.2.2.1, (hf rfl).2.2.2.2, r, by simpa using hr, by simpa using hs⟩

theorem join_sum (s : Int) (h0 : 0 ≤ s) (h1 : s ≤ 4294967295) : joinSum (sumBytes s) = s := by
  simp only [joinSum, sumBytes, List.foldl_cons, List.foldl_nil]
  omega
theorem sum_join (a b c d : Int) (h : isBytes [a, b, c, d]) : sumBytes (joinSum [a, b, c, d]) = [a, b, c, d] := by
  have ha := h a (by simp)
  have hb := h b (by simp)
  have hc := h c (by simp)
  have hd := h d (by simp)
  simp only [joinSum, sumBytes, List.foldl_cons, List.foldl_nil, List.cons.injEq, and_true]
  omega
theorem check_self (k : Int) (r : List Int) : checkHead k (headBytes k ++ r) = (0, 0) := by simp [checkHead, headBytes, chk]
theorem check_other (k j : Int) (r : List Int) (h : k ≠ j) : checkHead j (headBytes k ++ r) = (14, 3) := by simp [checkHead, headBytes, chk, h]

/-- Open of Seal is the body. -/
theorem open_frame (k : Int) (xs : List Int) (hl : xs.length ≤ 16777216) : openS k (frame k xs) = (xs, 0, 0) := by
  have hf : frame k xs = headBytes k ++ (enc 10 xs.length ++ (xs ++ sumBytes (adler (lead k xs)))) := by simp [frame, lead]
  have hd : (frame k xs).drop 4 = enc 10 xs.length ++ (xs ++ sumBytes (adler (lead k xs))) := by rw [hf]; rfl
  have hp := parse_enc (xs.length : Int) (xs ++ sumBytes (adler (lead k xs))) (by omega) (by omega)
  have hc := check_self k (enc 10 xs.length ++ (xs ++ sumBytes (adler (lead k xs))))
  have hlen : (frame k xs).length = 4 + (enc 10 (xs.length : Int)).length + xs.length + 4 := by rw [hf]; simp [headBytes, sumBytes]; omega
  have hll : (lead k xs).length = 4 + (enc 10 (xs.length : Int)).length + xs.length := by simp [lead, headBytes]; omega
  have hT : (4 + ((enc 10 (xs.length : Int)).length : Int) + (xs.length : Int)).toNat = 4 + (enc 10 (xs.length : Int)).length + xs.length := by omega
  have hF : (4 + ((enc 10 (xs.length : Int)).length : Int)).toNat = 4 + (enc 10 (xs.length : Int)).length := by omega
  have htake : (frame k xs).take (4 + (enc 10 (xs.length : Int)).length + xs.length) = lead k xs := by
    rw [← hll]; unfold frame; exact List.take_left
  have hdrop : (frame k xs).drop (4 + (enc 10 (xs.length : Int)).length + xs.length) = sumBytes (adler (lead k xs)) := by
    rw [← hll]; unfold frame; exact List.drop_left
  have hbody : (lead k xs).drop (4 + (enc 10 (xs.length : Int)).length) = xs := by
    have e : 4 + (enc 10 (xs.length : Int)).length = (headBytes k ++ enc 10 (xs.length : Int)).length := by simp [headBytes]; omega
    rw [e]; unfold lead; exact List.drop_left
  have hs := join_sum (adler (lead k xs)) (adler_bd _).1 (adler_bd _).2
  rw [← hf] at hc
  rw [openS, hc, if_neg (by simp), hd, hp, if_neg (by simp), if_neg (by simp), if_neg (by simp; omega), if_neg (by rw [hlen]; simp), if_neg (by rw [hlen]; simp)]
  simp only [hT, hF]
  rw [htake, hdrop, if_neg (by rw [hs]; simp), hbody]
theorem open_other (k j : Int) (xs : List Int) (h : k ≠ j) : openS j (frame k xs) = ([], 14, 3) := by
  have hf : frame k xs = headBytes k ++ (enc 10 xs.length ++ (xs ++ sumBytes (adler (lead k xs)))) := by simp [frame, lead]
  have hc := check_other k j (enc 10 xs.length ++ (xs ++ sumBytes (adler (lead k xs)))) h
  rw [← hf] at hc
  rw [openS, hc, if_pos (by simp)]

theorem four {l : List Int} (h : l.length = 4) : ∃ a b c d, l = [a, b, c, d] := by
  match l, h with
  | [a, b, c, d], _ => exact ⟨a, b, c, d, rfl⟩

/-- Seal of what Open takes is the frame. -/
theorem frame_open (k : Int) (xs : List Int) (hb : isBytes xs) (b : List Int) (at' : Int) (h : openS k xs = (b, 0, at')) : frame k b = xs ∧ b.length ≤ 16777216 ∧ isBytes b ∧ at' = 0 := by
  rw [openS] at h
  by_cases h1 : (checkHead k xs).1 = 0
  · rw [if_neg (by simp [h1])] at h
    obtain ⟨rest, hx, _⟩ := chk_none k xs h1
    have hd : xs.drop 4 = rest := by rw [hx]; rfl
    obtain ⟨n, s, ep, hp⟩ : ∃ n s e, parse (xs.drop 4) = (n, s, e) := ⟨_, _, _, rfl⟩
    rw [hp] at h
    by_cases h2 : ep = 11
    · rw [if_pos h2] at h; simp at h
    · rw [if_neg h2] at h
      by_cases h3 : ep = 0
      · subst h3
        rw [if_neg (by simp)] at h
        by_cases h4 : 16777216 < n
        · rw [if_pos h4] at h; simp at h
        · rw [if_neg h4] at h
          by_cases h5 : (xs.length : Int) < 4 + s + n + 4
          · rw [if_pos h5] at h; simp at h
          · rw [if_neg h5] at h
            by_cases h6 : 4 + s + n + 4 < (xs.length : Int)
            · rw [if_pos h6] at h; simp at h
            · rw [if_neg h6] at h
              by_cases h7 : joinSum (xs.drop (4 + s + n).toNat) ≠ adler (xs.take (4 + s + n).toNat)
              · rw [if_pos h7] at h; simp at h
              · rw [if_neg h7] at h
                simp only [Prod.mk.injEq, true_and] at h
                obtain ⟨hbody, hat⟩ := h
                have h7' := Classical.not_not.1 h7
                have hbr : isBytes (xs.drop 4) := isBytes_drop hb 4
                obtain ⟨hn0, hn1, r, hr, hs⟩ := parse_back (xs.drop 4) hbr n s hp
                obtain ⟨m, rfl⟩ := Int.eq_ofNat_of_zero_le hn0
                subst hs
                have hT : (4 + ((enc 10 (m : Int)).length : Int) + (m : Int)).toNat = 4 + (enc 10 (m : Int)).length + m := by omega
                have hF : (4 + ((enc 10 (m : Int)).length : Int)).toNat = 4 + (enc 10 (m : Int)).length := by omega
                rw [hT] at h7' hbody
                rw [hF] at hbody
                have hxs : xs = headBytes k ++ (enc 10 (m : Int) ++ r) := by rw [hx, ← hr, hd]
                have hrl : r.length = m + 4 := by
                  have := congrArg List.length hxs
                  simp [headBytes] at this
                  omega
                have e0 : (headBytes k ++ enc 10 (m : Int)).length = 4 + (enc 10 (m : Int)).length := by simp [headBytes]; omega
                have hxs' : xs = headBytes k ++ enc 10 (m : Int) ++ r := by rw [hxs, List.append_assoc]
                have htk : xs.take (4 + (enc 10 (m : Int)).length + m) = headBytes k ++ enc 10 (m : Int) ++ r.take m := by
                  rw [hxs', ← e0]; exact List.take_length_add_append _
                have hdr : xs.drop (4 + (enc 10 (m : Int)).length + m) = r.drop m := by
                  rw [hxs', ← e0]; exact List.drop_length_add_append _
                rw [htk, ← e0, List.drop_left] at hbody
                rw [htk, hdr] at h7'
                have hml : (r.take m).length = m := by simp; omega
                obtain ⟨q1, q2, q3, q4, hq⟩ := four (l := r.drop m) (by simp; omega)
                have hbr' : isBytes r := fun x hx => hb x (by rw [hxs]; simp [hx])
                have hsj := sum_join q1 q2 q3 q4 (hq ▸ isBytes_drop hbr' m)
                rw [← hq, h7'] at hsj
                have hlead : lead k b = headBytes k ++ enc 10 (m : Int) ++ r.take m := by
                  rw [← hbody]; unfold lead; rw [hml]
                refine ⟨?_, by rw [← hbody, hml]; omega, by rw [← hbody]; exact isBytes_take hbr' m, hat.symm⟩
                unfold frame
                rw [hlead, hsj, List.append_assoc _ (r.take m), List.take_append_drop, ← hxs']
      · rw [if_pos h3] at h
        simp only [Prod.mk.injEq] at h
        exact absurd h.2.1 h3
  · rw [if_pos h1] at h
    simp only [Prod.mk.injEq] at h
    exact absurd h.2.1 h1
theorem chk_at : ∀ (hs : List Int) (i : Nat) (xs : List Int), (chk hs i xs).1 ≠ 0 → (i : Int) ≤ (chk hs i xs).2 ∧ (chk hs i xs).2 ≤ (i : Int) + xs.length := by
  intro hs
  induction hs with
  | nil => intro i xs h; simp [chk] at h
  | cons a t ih =>
    intro i xs h
    match xs with
    | [] => simp [chk]
    | x :: r =>
      rw [chk] at h ⊢
      by_cases hx : x = a
      · rw [if_pos hx] at h ⊢
        have := ih (i + 1) r h
        simp only [List.length_cons]
        omega
      · rw [if_neg hx]
        simp only [List.length_cons]
        omega
/-- Where Open refuses. -/
theorem open_err (k : Int) (xs : List Int) (hb : isBytes xs) (h : (openS k xs).2.1 ≠ 0) : (openS k xs).1 = [] ∧ 0 ≤ (openS k xs).2.2 ∧ (openS k xs).2.2 ≤ xs.length := by
  by_cases h1 : (checkHead k xs).1 = 0
  · obtain ⟨rest, hx, _⟩ := chk_none k xs h1
    have h4 : 4 ≤ xs.length := by rw [hx]; simp [headBytes]
    obtain ⟨n, s, ep, hp⟩ : ∃ n s e, parse (xs.drop 4) = (n, s, e) := ⟨_, _, _, rfl⟩
    obtain ⟨_, hf⟩ := parse_facts (xs.drop 4) (isBytes_drop hb 4) n s ep hp
    rw [openS, if_neg (by simp [h1]), hp] at h ⊢
    by_cases h2 : ep = 11
    · rw [if_pos h2]; simp
    · rw [if_neg h2] at h ⊢
      by_cases h3 : ep = 0
      · subst h3
        have hf' := hf rfl
        rw [if_neg (by simp)] at h ⊢
        by_cases h4' : 16777216 < n
        · rw [if_pos h4']; simp; omega
        · rw [if_neg h4'] at h ⊢
          by_cases h5 : (xs.length : Int) < 4 + s + n + 4
          · rw [if_pos h5]; simp
          · rw [if_neg h5] at h ⊢
            by_cases h6 : 4 + s + n + 4 < (xs.length : Int)
            · rw [if_pos h6]; simp; omega
            · rw [if_neg h6] at h ⊢
              by_cases h7 : joinSum (xs.drop (4 + s + n).toNat) ≠ adler (xs.take (4 + s + n).toNat)
              · rw [if_pos h7]; simp; omega
              · rw [if_neg h7] at h; simp at h
      · rw [if_pos h3]; simp; omega
  · rw [openS, if_pos h1]
    have := chk_at (headBytes k) 0 xs h1
    refine ⟨rfl, ?_, ?_⟩
    · simpa [checkHead] using this.1
    · simpa [checkHead] using this.2
end Go.Proofs.YtboabidokkghbaaGreat.C
namespace Go.Proofs.YtboabidokkghbaaGreat.C
set_option linter.unusedVariables false
open Go.RowKit

theorem ROnly.patched {w wA wB : World} {r : Nat} (h : ROnly w wA r) (hb : Below w.heap.size wA wB) : ROnly w wB r :=
  ⟨hb.os.trans h.os, hb.tape.trans h.tape, hb.output.trans h.output, Nat.le_trans h.size hb.size, fun k hk hr => (hb.block k hk).trans (h.block k hk hr)⟩
theorem two_sets {w wA : World} (o : Nat) (u v : Value) (o' : Nat) : Below w.heap.size wA ((wA.setCell ⟨w.heap.size, o, none⟩ u).setCell ⟨w.heap.size, o', none⟩ v) :=
  ((Below.refl _ _).setCell (p := ⟨w.heap.size, o, none⟩) (Nat.le_refl _) u).setCell (p := ⟨w.heap.size, o', none⟩) (Nat.le_refl _) v
/-- What peek sees: number, size, error. -/
def peekS (xs : List Int) (pos : Nat) (most : Int) : Int × Int × Int :=
  if (parse (xs.drop pos)).2.2 ≠ 0 then (0, 0, (parse (xs.drop pos)).2.2)
  else if most < (parse (xs.drop pos)).1 then (0, 0, 4)
  else ((parse (xs.drop pos)).1, (parse (xs.drop pos)).2.1, 0)
end Go.Proofs.YtboabidokkghbaaGreat.C
