import Derived.Test.YtfckmbdcfeljiaaDoorLive
namespace Go.Proofs.YtfckmbdcfeljiaaDoor
set_option linter.unusedVariables false
open Go.RowKit

theorem nil_own (B : Nat) : ∀ k, (Value.slice none 0 0).ownBlock = some k → B ≤ k := fun k hk => by simp [Value.ownBlock] at hk
theorem lo_app (a b : List Int) : lo (a ++ b) = (lo a + lo b - 1) % 65521 := by
  suffices h : ∀ r : List Int, lo (a ++ r.reverse) = (lo a + lo r.reverse - 1) % 65521 by
    have := h b.reverse; simpa using this
  intro r
  induction r with
  | nil => have := lo_bd a; simp [lo] at *; omega
  | cons c r ih =>
    rw [List.reverse_cons, ← List.append_assoc, lo_snoc, lo_snoc, ih]
    omega
theorem hi_app (a b : List Int) : hi (a ++ b) = (hi a + hi b + b.length * (lo a - 1)) % 65521 := by
  suffices h : ∀ r : List Int, hi (a ++ r.reverse) = (hi a + hi r.reverse + r.length * (lo a - 1)) % 65521 by
    have := h b.reverse; simpa using this
  intro r
  induction r with
  | nil => have := hi_bd a; simp [hi] at *; omega
  | cons c r ih =>
    rw [List.reverse_cons, ← List.append_assoc, hi_snoc, hi_snoc, List.append_assoc, lo_app, ih]
    have e : (((c :: r).length : Nat) : Int) * (lo a - 1) = (r.length : Int) * (lo a - 1) + (lo a - 1) := by
      rw [List.length_cons, Int.natCast_succ, Int.add_mul, Int.one_mul]
    rw [e]
    generalize (r.length : Int) * (lo a - 1) = t
    generalize lo (r.reverse ++ [c]) = l
    omega
theorem adler_lo (xs : List Int) : adler xs % 65536 = lo xs := by have := lo_bd xs; have := hi_bd xs; unfold adler; omega
theorem adler_hi (xs : List Int) : adler xs / 65536 = hi xs := by have := lo_bd xs; have := hi_bd xs; unfold adler; omega
theorem lawLow (a b : List Int) : adler (a ++ b) % 65536 = (adler a % 65536 + adler b % 65536 + 65521 - 1) % 65521 := by
  rw [adler_lo, adler_lo, adler_lo, lo_app]; omega
theorem lawHigh (a b : List Int) : adler (a ++ b) / 65536 = (adler a / 65536 + adler b / 65536 + (b.length : Int) % 65521 * ((adler a % 65536 + 65521 - 1) % 65521)) % 65521 := by
  rw [adler_hi, adler_hi, adler_hi, adler_lo, hi_app]
  have e : (b.length : Int) * (lo a - 1) % 65521 = (b.length : Int) % 65521 * ((lo a + 65521 - 1) % 65521) % 65521 := by
    rw [Int.mul_emod]
    have : (lo a - 1) % 65521 = (lo a + 65521 - 1) % 65521 := by omega
    rw [this]
  generalize (b.length : Int) * (lo a - 1) = t at *
  generalize (b.length : Int) % 65521 * ((lo a + 65521 - 1) % 65521) = t' at *
  omega
/-- One byte turned turns the sum. -/
theorem lo_set (xs : List Int) (i : Nat) (hi : i < xs.length) (u : Int) (h0 : 0 ≤ u) (h1 : u ≤ 255) (hb : isBytes xs) (hne : u ≠ xs.getD i 0) : adler (xs.set i u) ≠ adler xs := by
  intro h
  have h' := congrArg (· % 65536) h
  simp only [adler_lo] at h'
  have hx := hb.at i
  have e1 : xs.set i u = xs.take i ++ ([u] ++ xs.drop (i + 1)) := by rw [List.set_eq_take_append_cons_drop, if_pos hi]; rfl
  have e2 : xs = xs.take i ++ ([xs.getD i 0] ++ xs.drop (i + 1)) := by
    conv => lhs; rw [← List.take_append_drop i xs, List.drop_eq_getElem_cons hi]
    simp [List.getD, hi]
  rw [e1] at h'
  conv at h' => rhs; rw [e2]
  simp only [lo_app] at h'
  have s1 : lo [u] = (1 + u) % 65521 := by simp [lo]
  have s2 : lo [xs.getD i 0] = (1 + xs.getD i 0) % 65521 := by simp [lo]
  rw [s1, s2] at h'
  have b1 := lo_bd (xs.take i)
  have b2 := lo_bd (xs.drop (i + 1))
  omega
theorem own_set {w : World} {g N c : Nat} {xs : List Int} (h : Own w (.slice (some ⟨g, 0, none⟩) N c) xs) (i : Nat) (hi : i < xs.length) (u : Int) (h0 : 0 ≤ u) (h1 : u ≤ 255) : Own (w.setCell ⟨g, i, none⟩ (.int .u8 u)) (.slice (some ⟨g, 0, none⟩) N c) (xs.set i u) := by
  obtain ⟨hN, _, _⟩ := own_len h
  subst hN
  rcases h.2.2 with ⟨e, _⟩ | ⟨g', cap, cur, e, _, hg, hnc, hm, hs, ht⟩
  · simp at e
  · simp only [Value.slice.injEq, Option.some.injEq, Addr.mk.injEq, true_and, and_true] at e
    obtain ⟨rfl, rfl⟩ := e
    refine ⟨fun x hx => ?_, by simp, .inr ⟨g, c, cur.setIfInBounds i (.int .u8 u), by simp, Nat.zero_le _, heap_set hg i _, by simpa using hnc, hm, by simpa using hs, ?_⟩⟩
    · rcases List.mem_or_eq_of_mem_set hx with q | q
      · exact h.1 x q
      · omega
    · simp only [Array.toList_setIfInBounds, List.length_set, Nat.mul_one] at ht ⊢
      rw [List.take_set, ht]
      simp [vals, List.map_set]
theorem own_some {w : World} {v : Value} {xs : List Int} (h : Own w v xs) (hn : xs ≠ []) : ∃ g N c, v = .slice (some ⟨g, 0, none⟩) N c := by
  refine own_shape h fun e => ?_
  subst e
  have := (own_len h).1
  exact hn (List.eq_nil_of_length_eq_zero this.symm)
theorem own_cell {w : World} {g N c : Nat} {xs : List Int} (h : Own w (.slice (some ⟨g, 0, none⟩) N c) xs) (i : Nat) (hi : i < xs.length) : w.cell? ⟨g, i, none⟩ = some (.int .u8 (xs.getD i 0)) ∧ w.frozen? ⟨g, i, none⟩ = false := by
  refine ⟨?_, ?_⟩
  · obtain ⟨_, hr, _⟩ := own_len h
    obtain ⟨b, off, he, hc⟩ := hr.2 (fun e => by subst e; simp at hi)
    simp only [Option.some.injEq, Addr.mk.injEq, and_true] at he
    obtain ⟨rfl, rfl⟩ := he
    simpa using hc i hi
  · rcases h.2.2 with ⟨e, _⟩ | ⟨g', cap, cur, e, _, hg, _⟩
    · simp at e
    · simp only [Value.slice.injEq, Option.some.injEq, Addr.mk.injEq, and_true] at e
      obtain ⟨rfl, _⟩ := e
      simp [World.frozen?, hg]
theorem xor_byte (x m : Int) (h0 : 0 ≤ x) (h1 : x ≤ 255) (m0 : 0 ≤ m) (m1 : m ≤ 255) : 0 ≤ bits .xor .u8 x m ∧ bits .xor .u8 x m ≤ 255 ∧ (m ≠ 0 → bits .xor .u8 x m ≠ x) := by
  rw [u8_xor x m h0 (by omega) m0 (by omega)]
  have hlt : x.toNat ^^^ m.toNat < 2 ^ 8 := Nat.xor_lt_two_pow (by omega) (by omega)
  refine ⟨by omega, by omega, fun hm h => ?_⟩
  have h' : x.toNat ^^^ m.toNat = x.toNat := by omega
  have h2 : x.toNat ^^^ (x.toNat ^^^ m.toNat) = x.toNat ^^^ x.toNat := by rw [h']
  rw [← Nat.xor_assoc, Nat.xor_self, Nat.zero_xor] at h2
  omega
end Go.Proofs.YtfckmbdcfeljiaaDoor
