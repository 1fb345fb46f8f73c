import Derived.Test.YtboabidokkghbaaGreatPlainToHead
import Derived.Test.YtboabidokkghbaaGreatOwnToAppStr
import Derived.Deep.QuietTactic
import Derived.BigQuiet
namespace Go.Proofs.YtboabidokkghbaaGreat.C
set_option linter.unusedVariables false
open Go.RowKit

def chk : List Int → Nat → List Int → Int × Int
  | [], _, _ => (0, 0)
  | _ :: _, i, [] => (11, i)
  | h :: t, i, x :: r => if x = h then chk t (i + 1) r else (14, i)
def headBytes (k : Int) : List Int := [103, 116, 114, k]
def checkHead (k : Int) (xs : List Int) : Int × Int := chk (headBytes k) 0 xs

end Go.Proofs.YtboabidokkghbaaGreat.C
namespace Go.Proofs.YtboabidokkghbaaGreat.C
set_option linter.unusedVariables false
open Go.RowKit

def sumBytes (s : Int) : List Int := [s / 16777216, s / 65536 % 256, s / 256 % 256, s % 256]
theorem sumBytes_bytes (s : Int) (h0 : 0 ≤ s) (h1 : s ≤ 4294967295) : isBytes (sumBytes s) := by intro x hx; simp [sumBytes] at hx; omega

end Go.Proofs.YtboabidokkghbaaGreat.C
namespace Go.Proofs.YtboabidokkghbaaGreat.C
set_option linter.unusedVariables false
open Go.RowKit

def lead (k : Int) (xs : List Int) : List Int := headBytes k ++ enc 10 xs.length ++ xs
def frame (k : Int) (xs : List Int) : List Int := lead k xs ++ sumBytes (adler (lead k xs))
theorem headBytes_bytes (k : Int) (h0 : 0 ≤ k) (h1 : k ≤ 255) : isBytes (headBytes k) := by intro x hx; simp [headBytes] at hx; omega

theorem grew_new {w w1 w2 : World} {v v' : Value} (hb : Below w.heap.size w w1) (hv : ∀ k, v.ownBlock = some k → w.heap.size ≤ k) (hg : Grew w1 w2 v v') : Below w.heap.size w w2 ∧ ∀ k, v'.ownBlock = some k → w.heap.size ≤ k := by
  refine ⟨hb.trans (grew_below hg hb.size hv), fun k hk => ?_⟩
  rcases hg.moved with e | ⟨q, e, hq⟩
  · exact hv k (e ▸ hk)
  · rw [hk] at e; have := Option.some.inj e; have := hb.size; omega

end Go.Proofs.YtboabidokkghbaaGreat.C
namespace Go.Proofs.YtboabidokkghbaaGreat.C
set_option linter.unusedVariables false
open Go.RowKit

/-- The number with which the bytes begin, begun at byte i with acc: number, size, error. -/
def parseGo : Nat → Int → List Int → Int × Int × Int
  | _, _, [] => (0, 0, 11)
  | i, acc, c :: r =>
    if i = 9 ∧ c ≠ 1 then (0, 0, 13)
    else if 128 ≤ c then parseGo (i + 1) (acc + c % 128 * 128 ^ i) r
    else if c = 0 ∧ 0 < i then (0, 0, 13)
    else (acc + c % 128 * 128 ^ i, i + 1, 0)
def parse (xs : List Int) : Int × Int × Int := parseGo 0 0 xs
theorem andNot128 (c : Int) (h0 : 0 ≤ c) (h1 : c < 256) : bits .andNot .u8 c 128 = c % 128 := by
  rw [u8_andNot c 128 h0 h1 (by decide) (by decide)]
  have h : ∀ m : Nat, m < 256 → m &&& (255 - 128) = m % 128 := by decide +kernel
  have e := h c.toNat (by omega)
  show ((c.toNat &&& (255 - 128) : Nat) : Int) = _
  rw [e]; omega

theorem orAcc (i : Nat) (acc c : Int) (h0 : 0 ≤ acc) (h1 : acc < ((2 ^ i : Nat) : Int)) (hc0 : 0 ≤ c) (hlim : c * ((2 ^ i : Nat) : Int) < 18446744073709551616) (ha : acc < 18446744073709551616) :
    bits .or .u64 acc (c * ((2 ^ i : Nat) : Int)) = acc + c * ((2 ^ i : Nat) : Int) := by
  obtain ⟨a, rfl⟩ := Int.eq_ofNat_of_zero_le h0
  obtain ⟨d, rfl⟩ := Int.eq_ofNat_of_zero_le hc0
  have e : (d : Int) * ((2 ^ i : Nat) : Int) = ((d * 2 ^ i : Nat) : Int) := by simp
  rw [e] at hlim ⊢
  rw [u64_or_nat a (d * 2 ^ i) (by omega) (by omega), Nat.or_comm, nat_join i (d * 2 ^ i) a (by simp) (by omega)]
  simp [Int.add_comm]
theorem pow128 (k : Nat) : (128 : Int) ^ k = ((2 ^ (7 * k) : Nat) : Int) := by
  rw [Nat.pow_mul]; simp
theorem pow2_7 (k : Nat) : (2 : Int) ^ (7 * k) = 128 ^ k := by
  rw [Int.pow_mul]; rfl
theorem lim (k : Nat) (hk : k ≤ 9) (d : Int) (h1 : d < 128) (h9 : k = 9 → d ≤ 1) : d * 128 ^ k < 18446744073709551616 := by
  have h : k = 0 ∨ k = 1 ∨ k = 2 ∨ k = 3 ∨ k = 4 ∨ k = 5 ∨ k = 6 ∨ k = 7 ∨ k = 8 ∨ k = 9 := by omega
  rcases h with rfl | rfl | rfl | rfl | rfl | rfl | rfl | rfl | rfl | rfl <;> simp at h9 ⊢ <;> omega
theorem pow_lim (k : Nat) (hk : k ≤ 9) : (128 : Int) ^ k ≤ 9223372036854775808 := by
  have h : k = 0 ∨ k = 1 ∨ k = 2 ∨ k = 3 ∨ k = 4 ∨ k = 5 ∨ k = 6 ∨ k = 7 ∨ k = 8 ∨ k = 9 := by omega
  rcases h with rfl | rfl | rfl | rfl | rfl | rfl | rfl | rfl | rfl | rfl <;> simp
theorem pow_pos' (k : Nat) : (0 : Int) < 128 ^ k := by rw [pow128]; exact Int.natCast_pos.2 (Nat.two_pow_pos _)
theorem accStep (k : Nat) (acc c : Int) (hk : k ≤ 9) (h0 : 0 ≤ acc) (h1 : acc < 128 ^ k) (hc0 : 0 ≤ c) (hc1 : c ≤ 255) (h9 : k = 9 → c = 1) :
    bits .or .u64 acc (IntKind.u64.wrap (IntKind.u64.wrap (bits .andNot .u8 c 128) * 2 ^ (7 * k))) = acc + c % 128 * 128 ^ k := by
  have hl := lim k hk (c % 128) (by omega) (fun e => by have := h9 e; omega)
  have hp := pow_lim k hk
  have hq := pow_pos' k
  rw [andNot128 c hc0 (by omega), pow2_7, IntKind.wrap_u64, IntKind.wrap_u64, Int.emod_eq_of_lt (a := c % 128) (by omega) (by omega), Int.emod_eq_of_lt (Int.mul_nonneg (by omega) (by omega)) hl]
  rw [pow128] at h1 hl hp ⊢
  exact orAcc (7 * k) acc (c % 128) h0 h1 (by omega) hl (by omega)
theorem accNext (k : Nat) (acc c : Int) (h0 : 0 ≤ acc) (h1 : acc < 128 ^ k) (hc0 : 0 ≤ c) : 0 ≤ acc + c % 128 * 128 ^ k ∧ acc + c % 128 * 128 ^ k < 128 ^ (k + 1) := by
  have hq := pow_pos' k
  have h2 : c % 128 * 128 ^ k ≤ 127 * 128 ^ k := Int.mul_le_mul_of_nonneg_right (by omega) (by omega)
  have h3 : 0 ≤ c % 128 * 128 ^ k := Int.mul_nonneg (by omega) (by omega)
  rw [Int.pow_succ]
  omega

end Go.Proofs.YtboabidokkghbaaGreat.C
namespace Go.Proofs.YtboabidokkghbaaGreat.C
set_option linter.unusedVariables false
open Go.RowKit

def joinSum (xs : List Int) : Int := xs.foldl (fun a c => a * 256 % 4294967296 + c) 0
theorem joinSum_snoc (xs : List Int) (c : Int) : joinSum (xs ++ [c]) = joinSum xs * 256 % 4294967296 + c := by simp [joinSum]
theorem joinSum_bd (xs : List Int) (h : isBytes xs) : 0 ≤ joinSum xs ∧ joinSum xs < 4294967296 := by
  rcases List.eq_nil_or_concat xs with rfl | ⟨ys, c, rfl⟩
  · simp [joinSum]
  · rw [List.concat_eq_append, joinSum_snoc]
    have := h c (by simp)
    omega
theorem orJoin8 (a c : Int) (h0 : 0 ≤ c) (h1 : c < 256) : bits .or .u32 (a * 256 % 4294967296) c = a * 256 % 4294967296 + c := by
  rw [u32_or _ _ (by omega) (by omega) (by omega) (by omega), nat_join 8 _ _ (by omega) (by omega)]; omega

end Go.Proofs.YtboabidokkghbaaGreat.C
namespace Go.Proofs.YtboabidokkghbaaGreat.C
set_option linter.unusedVariables false
open Go.RowKit

theorem chk_none (k : Int) (xs : List Int) (h : (checkHead k xs).1 = 0) : ∃ r, xs = headBytes k ++ r ∧ (checkHead k xs).2 = 0 := by
  unfold checkHead headBytes at *
  match xs with
  | [] => simp [chk] at h
  | [a] => simp [chk] at h; split at h <;> simp at h
  | [a, b] => simp [chk] at h; split at h <;> (try split at h) <;> simp at h
  | [a, b, c] => simp [chk] at h; split at h <;> (try split at h) <;> (try split at h) <;> simp at h
  | a :: b :: c :: d :: r =>
    simp [chk] at h ⊢
    by_cases ha : a = 103 <;> by_cases hb : b = 116 <;> by_cases hc : c = 114 <;> by_cases hd : d = k <;> simp_all

theorem RowAt.drop {w : World} {b off : Nat} {xs : List Int} (h : RowAt w (some ⟨b, off, none⟩) xs) (n : Nat) : RowAt w (some ⟨b, off + n, none⟩) (xs.drop n) := by
  refine ⟨isBytes_drop h.1 n, fun hne => ⟨b, off + n, rfl, fun i hi => ?_⟩⟩
  have hx : xs ≠ [] := fun e => hne (by rw [e]; simp)
  obtain ⟨b', off', he, hc⟩ := h.2 hx
  simp only [Option.some.injEq, Addr.mk.injEq, and_true] at he
  obtain ⟨rfl, rfl⟩ := he
  simp only [List.length_drop] at hi
  have := hc (n + i) (by omega)
  rw [show off + (n + i) = off + n + i by omega] at this
  rw [this]; simp [List.getD]
theorem RowAt.take {w : World} {ao : Option Addr} {xs : List Int} (h : RowAt w ao xs) (n : Nat) : RowAt w ao (xs.take n) := by
  refine ⟨isBytes_take h.1 n, fun hne => ?_⟩
  have hx : xs ≠ [] := fun e => hne (by rw [e]; simp)
  obtain ⟨b, off, rfl, hc⟩ := h.2 hx
  refine ⟨b, off, rfl, fun i hi => ?_⟩
  simp only [List.length_take] at hi
  rw [hc i (by omega)]
  simp [List.getD, show i < n by omega]

theorem RowAt.drewN {w : World} {ao : Option Addr} {xs : List Int} (h : RowAt w ao xs) (n : Nat) : RowAt (w.drewN n) ao xs := h.later (below_drewN (Below.refl _ _) n)
/-- What Open answers: the body, the error, its place. -/
def openS (k : Int) (xs : List Int) : List Int × Int × Int :=
  if (checkHead k xs).1 ≠ 0 then ([], (checkHead k xs).1, (checkHead k xs).2)
  else if (parse (xs.drop 4)).2.2 = 11 then ([], 11, xs.length)
  else if (parse (xs.drop 4)).2.2 ≠ 0 then ([], (parse (xs.drop 4)).2.2, 4)
  else if 16777216 < (parse (xs.drop 4)).1 then ([], 5, 4)
  else if (xs.length : Int) < 4 + (parse (xs.drop 4)).2.1 + (parse (xs.drop 4)).1 + 4 then ([], 11, xs.length)
  else if 4 + (parse (xs.drop 4)).2.1 + (parse (xs.drop 4)).1 + 4 < (xs.length : Int) then ([], 12, 4 + (parse (xs.drop 4)).2.1 + (parse (xs.drop 4)).1 + 4)
  else if joinSum (xs.drop (4 + (parse (xs.drop 4)).2.1 + (parse (xs.drop 4)).1).toNat) ≠ adler (xs.take (4 + (parse (xs.drop 4)).2.1 + (parse (xs.drop 4)).1).toNat) then ([], 15, 4 + (parse (xs.drop 4)).2.1 + (parse (xs.drop 4)).1)
  else ((xs.take (4 + (parse (xs.drop 4)).2.1 + (parse (xs.drop 4)).1).toNat).drop (4 + (parse (xs.drop 4)).2.1).toNat, 0, 0)

theorem parseGo_facts (xs : List Int) (hb : isBytes xs) : ∀ (i : Nat) (acc : Int), i ≤ 9 → 0 ≤ acc → acc < 128 ^ i → ∀ n s e, parseGo i acc xs = (n, s, e) → (e = 11 ∨ e = 13 ∨ e = 0) ∧ (e = 0 → (i : Int) + 1 ≤ s ∧ s ≤ 10 ∧ s ≤ i + xs.length ∧ 0 ≤ n ∧ n < 18446744073709551616) := by
  induction xs with
  | nil => intro i acc _ _ _ n s e h; simp [parseGo] at h; obtain ⟨rfl, rfl, rfl⟩ := h; simp
  | cons c r ih =>
    intro i acc hi ha hlt n s e h
    have hc := hb c (by simp)
    rw [parseGo] at h
    by_cases h9 : i = 9 ∧ c ≠ 1
    · rw [if_pos h9] at h; simp at h; obtain ⟨rfl, rfl, rfl⟩ := h; simp
    · rw [if_neg h9] at h
      have hnx := accNext i acc c ha hlt hc.1
      by_cases hbig : 128 ≤ c
      · rw [if_pos hbig] at h
        have hi9 : i ≠ 9 := fun q => by have : c = 1 := Classical.byContradiction fun z => h9 ⟨q, z⟩; omega
        obtain ⟨q1, q2⟩ := ih (fun x hx => hb x (by simp [hx])) (i + 1) _ (by omega) hnx.1 hnx.2 n s e h
        refine ⟨q1, fun h0 => ?_⟩
        have := q2 h0
        simp only [List.length_cons]
        omega
      · rw [if_neg hbig] at h
        by_cases hz : c = 0 ∧ 0 < i
        · rw [if_pos hz] at h; simp at h; obtain ⟨rfl, rfl, rfl⟩ := h; simp
        · rw [if_neg hz] at h
          simp only [Prod.mk.injEq] at h
          obtain ⟨rfl, rfl, rfl⟩ := h
          refine ⟨by simp, fun _ => ?_⟩
          have hlim := lim i hi (c % 128) (by omega) (fun q => by have : c = 1 := Classical.byContradiction fun z => h9 ⟨q, z⟩; omega)
          have hp := pow_lim i hi
          simp only [List.length_cons]
          refine ⟨by omega, by omega, by omega, hnx.1, ?_⟩
          by_cases hi9 : i = 9
          · have : c = 1 := Classical.byContradiction fun z => h9 ⟨hi9, z⟩
            subst this
            subst hi9
            simp at hlt ⊢; omega
          · have : (128 : Int) ^ (i + 1) ≤ 9223372036854775808 := pow_lim (i + 1) (by omega)
            omega
theorem parse_facts (xs : List Int) (hb : isBytes xs) (n s e : Int) (h : parse xs = (n, s, e)) : (e = 11 ∨ e = 13 ∨ e = 0) ∧ (e = 0 → 1 ≤ s ∧ s ≤ 10 ∧ s ≤ xs.length ∧ 0 ≤ n ∧ n < 18446744073709551616) := by
  have := parseGo_facts xs hb 0 0 (by omega) (by omega) (by decide) n s e h
  simpa using this

/-- Its claim, of a call that ends so. -/
def OpenEnds (k : Int) (xs : List Int) (w : World) (e : Ending) (w' : World) : Prop :=
  ∃ v, e = .returned (.tuple #[v, .int .i64 (openS k xs).2.1, .int .i64 (openS k xs).2.2]) ∧ Own w' v (openS k xs).1 ∧ (∀ b, v.ownBlock = some b → w.heap.size ≤ b) ∧ Below w.heap.size w w'
theorem openEnds_nil {k : Int} {xs : List Int} {w w' : World} {er at' : Int} (h : openS k xs = ([], er, at')) (hb : Below w.heap.size w w') : OpenEnds k xs w (.returned (.tuple #[.slice none 0 0, .int .i64 er, .int .i64 at'])) w' :=
  ⟨.slice none 0 0, by rw [h], by rw [h]; exact Own.nil _, fun b hb => by simp [Value.ownBlock] at hb, hb⟩

end Go.Proofs.YtboabidokkghbaaGreat.C
