import Derived.Test.YtboabidokkghbaaGreatOwnToAppStr
import Derived.Deep.QuietTactic
import Derived.BigQuiet
import Derived.Test.YtboabidokkghbaaGreatCheckHeadToOpen
import Derived.Lib.SlBytesConst
namespace Go.Proofs.YtboabidokkghbaaGreat.C
set_option linter.unusedVariables false
open Go.RowKit

/-- The heap has not turned. -/
def Still (w w' : World) : Prop := ∀ B, Below B w w'
theorem Still.refl (w : World) : Still w w := fun B => Below.refl B w
theorem Still.drew {w w' : World} (h : Still w w') : Still w w'.drew := fun B => (h B).drew
theorem Still.trans {w w1 w2 : World} (h : Still w w1) (k : Still w1 w2) : Still w w2 := fun B => (h B).trans (k B)
theorem Still.cell {w w' : World} (h : Still w w') (b o : Nat) : w'.cell? ⟨b, o, none⟩ = w.cell? ⟨b, o, none⟩ := (h (b + 1)).cell (p := ⟨b, o, none⟩) (Nat.lt_succ_self b)
theorem Still.row {w w' : World} (h : Still w w') {ao : Option Addr} {xs : List Int} (hr : RowAt w ao xs) : RowAt w' ao xs := hr.later (h _)
theorem Still.own {w w' : World} (h : Still w w') {v : Value} {xs : List Int} (hr : Own w v xs) : Own w' v xs := hr.kept fun k _ => (h (k + 1)).block k (Nat.lt_succ_self k)

theorem take_eq_step {xs ys : List Int} {k : Nat} (h : xs.take k = ys.take k) (hx : k < xs.length) (hy : k < ys.length) (e : xs.getD k 0 = ys.getD k 0) : xs.take (k + 1) = ys.take (k + 1) := by
  rw [take_snoc xs k hx, take_snoc ys k hy, h, e]

set_option maxHeartbeats 1000000 in
theorem same_any (ao bo : Option Addr) (ca cb : Nat) (xs ys : List Int) (w : World) (hl : xs.length ≤ 140737488355328) (hl2 : ys.length ≤ 140737488355328) (hr : RowAt w ao xs) (hs : RowAt w bo ys) :
    Calls Tryz.prog 42 #[.slice ao xs.length ca, .slice bo ys.length cb] w fun e w' => e = .returned (.bool (decide (xs = ys))) ∧ Still w w' := by
  by_cases hlen : xs.length = ys.length
  · have hb : ((xs.length : Int) != ys.length) = false := by simp [hlen]
    have HL : Hid (xs.length = ys.length) := hlen
    clear hlen
    go_enter Tryz.func42, Tryz.ntmps42
    go_wp2
    go_loopw [5] (fun i wr => ∃ k : Nat, k ≤ xs.length ∧ i = .int .i64 k ∧ xs.take k = ys.take k ∧ Still w wr) (fun i _ => xs.length - (intOf i).toNat)
    case atStart => exact ⟨0, Nat.zero_le _, rfl, rfl, Still.refl _⟩
    case round =>
      obtain ⟨k, hk, rfl, htk, hst⟩ := hrel
      have HT : Hid (xs.take k = ys.take k) := htk
      clear htk
      by_cases hlt : k < xs.length
      · have hlt2 : k < ys.length := by have := HL.out; omega
        obtain ⟨b, off, rfl, hc⟩ := hr.2 (by intro h; subst h; simp at hlt)
        obtain ⟨b2, off2, rfl, hc2⟩ := hs.2 (by intro h; subst h; simp at hlt2)
        have h1 := (hst.cell b (off + k)).trans (hc k hlt)
        have h2 := (hst.cell b2 (off2 + k)).trans (hc2 k hlt2)
        have HX : Hid (xs.getD k 0 = ys.getD k 0 → xs.take (k + 1) = ys.take (k + 1)) := fun e => take_eq_step HT.out hlt hlt2 e
        have HN : Hid (xs.getD k 0 ≠ ys.getD k 0 → xs ≠ ys) := fun e h => e (by rw [h])
        have hbx := hr.1.at k
        have hby := hs.1.at k
        clear hc hc2 hr hs
        generalize xs.getD k 0 = x at *
        generalize ys.getD k 0 = y at *
        by_cases he : x = y
        · have het : (x != y) = false := by simp [he]
          have HE : Hid (x = y) := he
          clear he
          go_wp2
          go_region
          all_goals go_wp2
          all_goals go_roundw
          all_goals first
            | exact ⟨k + 1, by omega, by go_num, HX.out HE.out, hst.drew⟩
            | (simp [intOf]; omega)
        · have het : (x != y) = true := by simp [he]
          have HE : Hid (x ≠ y) := he
          clear he
          go_wp2
          go_region
          all_goals go_wp2
          all_goals go_ret
          all_goals exact ⟨by simp [HN.out HE.out], hst.drew⟩
      · go_wp2
        go_ret
        refine ⟨?_, hst⟩
        have e : xs = ys := by
          have := HT.out
          rwa [List.take_of_length_le (by omega), List.take_of_length_le (by have := HL.out; omega)] at this
        simp [e]
  · have hb : ((xs.length : Int) != ys.length) = true := by simp; omega
    go_enter Tryz.func42, Tryz.ntmps42
    go_wp2
    go_ret
    refine ⟨?_, Still.refl _⟩
    have hne : xs ≠ ys := fun h => hlen (by rw [h])
    simp [hne]
end Go.Proofs.YtboabidokkghbaaGreat.C
namespace Go.Proofs.YtboabidokkghbaaGreat.C
set_option linter.unusedVariables false
open Go.RowKit

theorem Own.later {w w' : World} {v : Value} {xs : List Int} (h : Own w v xs) (hb : Below w.heap.size w w') : Own w' v xs := h.kept fun k hk => hb.block k (h.lt k hk)
theorem wgrew_below {w w' : World} {q B : Nat} {v v' : Value} (h : WGrew w w' q v v') (hB : B ≤ w.heap.size) (hq : B ≤ q) (hv : ∀ k, v.ownBlock = some k → B ≤ k) : Below B w w' :=
  ⟨h.os, h.tape, h.output, h.size, fun k hk => h.block k (by omega) (by omega) (fun e => by have := hv k e.symm; omega)⟩

theorem same_at (ao bo : Option Addr) (n m ca cb : Nat) (xs ys : List Int) (w : World) (hn : n = xs.length) (hm : m = ys.length) (hl : xs.length ≤ 140737488355328) (hl2 : ys.length ≤ 140737488355328) (hr : RowAt w ao xs) (hs : RowAt w bo ys) :
    Calls Tryz.prog 42 #[.slice ao n ca, .slice bo m cb] w fun e w' => e = .returned (.bool (decide (xs = ys))) ∧ Still w w' := by
  subst hn; subst hm
  exact same_any ao bo ca cb xs ys w hl hl2 hr hs
theorem same_true (ao bo : Option Addr) (n m ca cb : Nat) (xs : List Int) (w : World) (hn : n = xs.length) (hm : m = xs.length) (hl : xs.length ≤ 140737488355328) (hr : RowAt w ao xs) (hs : RowAt w bo xs) :
    Calls Tryz.prog 42 #[.slice ao n ca, .slice bo m cb] w fun e w' => e = .returned (.bool true) ∧ Still w w' := by
  have h := same_at ao bo n m ca cb xs xs w hn hm hl hl hr hs
  simpa using h

theorem enc300 : enc 10 300 = [172, 2] := by decide +kernel
theorem openFrame : openS 1 (frame 1 [97]) = ([97], 0, 0) := by decide +kernel
theorem wiki : adler [87, 105, 107, 105, 112, 101, 100, 105, 97] = 300286872 := by decide +kernel
theorem frameLen : (frame 1 [97]).length = 10 := by decide +kernel

theorem own_cap {w : World} {a : Option Addr} {N c : Nat} {xs : List Int} (h : Own w (.slice a N c) xs) : xs.length ≤ c := by
  rcases h.2.2 with ⟨e, hn⟩ | ⟨g, cap, cur, e, _, _, hnc, _⟩
  · simp only [Value.slice.injEq] at e
    obtain ⟨rfl, rfl, rfl⟩ := e
    have := h.1
    omega
  · simp only [Value.slice.injEq] at e
    obtain ⟨rfl, rfl, rfl⟩ := e
    exact hnc
end Go.Proofs.YtboabidokkghbaaGreat.C
namespace Go.Proofs.YtboabidokkghbaaGreat.C
set_option linter.unusedVariables false
open Go.RowKit

theorem below_two (w : World) (o p : Obj) : Below w.heap.size w ((w.alloc o).alloc p) := (below_alloc w o).trans ((below_alloc (w.alloc o) p).mono (by simp))

theorem rowAt_new2 (w : World) (o : Obj) (t : TypeId) (xs : List Int) (fz : Nat × Nat) (h : isBytes xs) : RowAt ((w.alloc o).alloc (.cells (vals xs).toArray t fz)) (some ⟨w.heap.size + 1, 0, none⟩) xs := by
  have := rowAt_new (w.alloc o) t xs fz h
  simpa using this

end Go.Proofs.YtboabidokkghbaaGreat.C
namespace Go.Proofs.YtboabidokkghbaaGreat.C
set_option linter.unusedVariables false
open Go.RowKit

theorem nil_own (B : Nat) : ∀ k, (Value.slice none 0 0).ownBlock = some k → B ≤ k := fun k hk => by simp [Value.ownBlock] at hk
theorem lo_app (a b : List Int) : lo (a ++ b) = (lo a + lo b - 1) % 65521 := by
  suffices h : ∀ r : List Int, lo (a ++ r.reverse) = (lo a + lo r.reverse - 1) % 65521 by
    have := h b.reverse; simpa using this
  intro r
  induction r with
  | nil => have := lo_bd a; simp [lo] at *; omega
  | cons c r ih =>
    rw [List.reverse_cons, ← List.append_assoc, lo_snoc, lo_snoc, ih]
    omega
theorem hi_app (a b : List Int) : hi (a ++ b) = (hi a + hi b + b.length * (lo a - 1)) % 65521 := by
  suffices h : ∀ r : List Int, hi (a ++ r.reverse) = (hi a + hi r.reverse + r.length * (lo a - 1)) % 65521 by
    have := h b.reverse; simpa using this
  intro r
  induction r with
  | nil => have := hi_bd a; simp [hi] at *; omega
  | cons c r ih =>
    rw [List.reverse_cons, ← List.append_assoc, hi_snoc, hi_snoc, List.append_assoc, lo_app, ih]
    have e : (((c :: r).length : Nat) : Int) * (lo a - 1) = (r.length : Int) * (lo a - 1) + (lo a - 1) := by
      rw [List.length_cons, Int.natCast_succ, Int.add_mul, Int.one_mul]
    rw [e]
    generalize (r.length : Int) * (lo a - 1) = t
    generalize lo (r.reverse ++ [c]) = l
    omega
theorem adler_lo (xs : List Int) : adler xs % 65536 = lo xs := by have := lo_bd xs; have := hi_bd xs; unfold adler; omega
theorem adler_hi (xs : List Int) : adler xs / 65536 = hi xs := by have := lo_bd xs; have := hi_bd xs; unfold adler; omega
theorem lawLow (a b : List Int) : adler (a ++ b) % 65536 = (adler a % 65536 + adler b % 65536 + 65521 - 1) % 65521 := by
  rw [adler_lo, adler_lo, adler_lo, lo_app]; omega
theorem lawHigh (a b : List Int) : adler (a ++ b) / 65536 = (adler a / 65536 + adler b / 65536 + (b.length : Int) % 65521 * ((adler a % 65536 + 65521 - 1) % 65521)) % 65521 := by
  rw [adler_hi, adler_hi, adler_hi, adler_lo, hi_app]
  have e : (b.length : Int) * (lo a - 1) % 65521 = (b.length : Int) % 65521 * ((lo a + 65521 - 1) % 65521) % 65521 := by
    rw [Int.mul_emod]
    have : (lo a - 1) % 65521 = (lo a + 65521 - 1) % 65521 := by omega
    rw [this]
  generalize (b.length : Int) * (lo a - 1) = t at *
  generalize (b.length : Int) % 65521 * ((lo a + 65521 - 1) % 65521) = t' at *
  omega
/-- One byte turned turns the sum. -/
theorem lo_set (xs : List Int) (i : Nat) (hi : i < xs.length) (u : Int) (h0 : 0 ≤ u) (h1 : u ≤ 255) (hb : isBytes xs) (hne : u ≠ xs.getD i 0) : adler (xs.set i u) ≠ adler xs := by
  intro h
  have h' := congrArg (· % 65536) h
  simp only [adler_lo] at h'
  have hx := hb.at i
  have e1 : xs.set i u = xs.take i ++ ([u] ++ xs.drop (i + 1)) := by rw [List.set_eq_take_append_cons_drop, if_pos hi]; rfl
  have e2 : xs = xs.take i ++ ([xs.getD i 0] ++ xs.drop (i + 1)) := by
    conv => lhs; rw [← List.take_append_drop i xs, List.drop_eq_getElem_cons hi]
    simp [List.getD, hi]
  rw [e1] at h'
  conv at h' => rhs; rw [e2]
  simp only [lo_app] at h'
  have s1 : lo [u] = (1 + u) % 65521 := by simp [lo]
  have s2 : lo [xs.getD i 0] = (1 + xs.getD i 0) % 65521 := by simp [lo]
  rw [s1, s2] at h'
  have b1 := lo_bd (xs.take i)
  have b2 := lo_bd (xs.drop (i + 1))
  omega
theorem own_set {w : World} {g N c : Nat} {xs : List Int} (h : Own w (.slice (some ⟨g, 0, none⟩) N c) xs) (i : Nat) (hi : i < xs.length) (u : Int) (h0 : 0 ≤ u) (h1 : u ≤ 255) : Own (w.setCell ⟨g, i, none⟩ (.int .u8 u)) (.slice (some ⟨g, 0, none⟩) N c) (xs.set i u) := by
  obtain ⟨hN, _, _⟩ := own_len h
  subst hN
  rcases h.2.2 with ⟨e, _⟩ | ⟨g', cap, cur, e, _, hg, hnc, hm, hs, ht⟩
  · simp at e
  · simp only [Value.slice.injEq, Option.some.injEq, Addr.mk.injEq, true_and, and_true] at e
    obtain ⟨rfl, rfl⟩ := e
    refine ⟨fun x hx => ?_, by simp, .inr ⟨g, c, cur.setIfInBounds i (.int .u8 u), by simp, Nat.zero_le _, heap_set hg i _, by simpa using hnc, hm, by simpa using hs, ?_⟩⟩
    · rcases List.mem_or_eq_of_mem_set hx with q | q
      · exact h.1 x q
      · omega
    · simp only [Array.toList_setIfInBounds, List.length_set, Nat.mul_one] at ht ⊢
      rw [List.take_set, ht]
      simp [vals, List.map_set]
theorem own_some {w : World} {v : Value} {xs : List Int} (h : Own w v xs) (hn : xs ≠ []) : ∃ g N c, v = .slice (some ⟨g, 0, none⟩) N c := by
  refine own_shape h fun e => ?_
  subst e
  have := (own_len h).1
  exact hn (List.eq_nil_of_length_eq_zero this.symm)
theorem own_cell {w : World} {g N c : Nat} {xs : List Int} (h : Own w (.slice (some ⟨g, 0, none⟩) N c) xs) (i : Nat) (hi : i < xs.length) : w.cell? ⟨g, i, none⟩ = some (.int .u8 (xs.getD i 0)) ∧ w.frozen? ⟨g, i, none⟩ = false := by
  refine ⟨?_, ?_⟩
  · obtain ⟨_, hr, _⟩ := own_len h
    obtain ⟨b, off, he, hc⟩ := hr.2 (fun e => by subst e; simp at hi)
    simp only [Option.some.injEq, Addr.mk.injEq, and_true] at he
    obtain ⟨rfl, rfl⟩ := he
    simpa using hc i hi
  · rcases h.2.2 with ⟨e, _⟩ | ⟨g', cap, cur, e, _, hg, _⟩
    · simp at e
    · simp only [Value.slice.injEq, Option.some.injEq, Addr.mk.injEq, and_true] at e
      obtain ⟨rfl, _⟩ := e
      simp [World.frozen?, hg]
theorem xor_byte (x m : Int) (h0 : 0 ≤ x) (h1 : x ≤ 255) (m0 : 0 ≤ m) (m1 : m ≤ 255) : 0 ≤ bits .xor .u8 x m ∧ bits .xor .u8 x m ≤ 255 ∧ (m ≠ 0 → bits .xor .u8 x m ≠ x) := by
  rw [u8_xor x m h0 (by omega) m0 (by omega)]
  have hlt : x.toNat ^^^ m.toNat < 2 ^ 8 := Nat.xor_lt_two_pow (by omega) (by omega)
  refine ⟨by omega, by omega, fun hm h => ?_⟩
  have h' : x.toNat ^^^ m.toNat = x.toNat := by omega
  have h2 : x.toNat ^^^ (x.toNat ^^^ m.toNat) = x.toNat ^^^ x.toNat := by rw [h']
  rw [← Nat.xor_assoc, Nat.xor_self, Nat.zero_xor] at h2
  omega
end Go.Proofs.YtboabidokkghbaaGreat.C
