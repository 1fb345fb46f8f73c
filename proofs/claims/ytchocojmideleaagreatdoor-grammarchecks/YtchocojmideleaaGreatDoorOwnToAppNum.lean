import Derived.Test.YtchocojmideleaaGreatDoorPlainToHead
import Derived.Laws.AppendOwnNone
namespace Go.Proofs.YtchocojmideleaaGreatDoor.C
set_option linter.unusedVariables false
open Go.RowKit

theorem info5 : (Tryz.prog.info? 5).map (fun i => (i.zero, i.size, i.bytes)) = some (some (.int .u8 0), 1, 1) := by kernel_rfl

/-- The value v is a slice of bytes that its holder alone writes: nil, or at the head of a row of its own; it holds xs. -/
def Own (w : World) (v : Value) (xs : List Int) : Prop := isBytes xs ∧ w.ownsRow 0 5 1 v xs.length (vals xs)
/-- What an append leaves: of the old blocks the value's own alone may have turned; the new value lies in that block, or in a new one. -/
structure Grew (w w' : World) (v v' : Value) : Prop where
  grown : w.grownBy w' v.ownBlock
  moved : v'.ownBlock = v.ownBlock ∨ ∃ k, v'.ownBlock = some k ∧ w.heap.size ≤ k

theorem Grew.refl (w : World) (v : Value) : Grew w w v v := ⟨⟨rfl, rfl, rfl, Nat.le_refl _, fun _ _ _ => rfl⟩, .inl rfl⟩
theorem Grew.trans {w w1 w2 : World} {v v1 v2 : Value} (h : Grew w w1 v v1) (k : Grew w1 w2 v1 v2) : Grew w w2 v v2 := by
  refine ⟨⟨k.grown.os.trans h.grown.os, k.grown.tape.trans h.grown.tape, k.grown.output.trans h.grown.output, Nat.le_trans h.grown.size k.grown.size, fun i hi hne => ?_⟩, ?_⟩
  · refine (k.grown.block i (Nat.lt_of_lt_of_le hi h.grown.size) ?_).trans (h.grown.block i hi hne)
    rcases h.moved with e | ⟨q, e, hq⟩
    · rw [e]; exact hne
    · rw [e]; intro e'; have := Option.some.inj e'; omega
  · rcases k.moved with e | ⟨q, e, hq⟩
    · rw [e]; exact h.moved
    · exact .inr ⟨q, e, Nat.le_trans h.grown.size hq⟩
theorem Grew.alloc {w w' : World} {v v' : Value} (h : Grew w w' v v') (o : Obj) : Grew w (w'.alloc o) v v' := by
  refine ⟨⟨h.grown.os, h.grown.tape, h.grown.output, by have := h.grown.size; simp; omega, fun i hi hne => ?_⟩, h.moved⟩
  exact (Below.heap_alloc w' o i (Nat.lt_of_lt_of_le hi h.grown.size)).trans (h.grown.block i hi hne)
theorem Own.alloc {w : World} {v : Value} {xs : List Int} (h : Own w v xs) (o : Obj) : Own (w.alloc o) v xs := ⟨h.1, h.2.alloc o⟩
theorem Own.drew {w : World} {v : Value} {xs : List Int} (h : Own w v xs) : Own w.drew v xs := ⟨h.1, h.2.drew⟩
theorem Own.lt {w : World} {v : Value} {xs : List Int} (h : Own w v xs) : ∀ k, v.ownBlock = some k → k < w.heap.size := fun k hk => (h.2.lt k hk).2
/-- It stays, where its block has not turned. -/
theorem Own.kept {w w' : World} {v : Value} {xs : List Int} (h : Own w v xs) (hb : ∀ k, v.ownBlock = some k → w'.heap[k]? = w.heap[k]?) : Own w' v xs := by
  refine ⟨h.1, h.2.1, ?_⟩
  rcases h.2.2 with hn | ⟨g, cap, cur, rfl, hb', hgg, rest⟩
  · exact .inl hn
  · exact .inr ⟨g, cap, cur, rfl, hb', by rw [hb g rfl]; exact hgg, rest⟩
theorem Own.nil (w : World) : Own w (.slice none 0 0) [] := ⟨isBytes_nil, World.ownsRow_nil w 0 5 1⟩
theorem Own.row {w : World} {v : Value} {xs : List Int} (h : Own w v xs) : ∃ ao cap, v = .slice ao xs.length cap ∧ (ao = none → xs = [] ∧ cap = 0) ∧ RowAt w ao xs := rowAt_of_owns h.1 h.2
theorem grew_below {w w' : World} {v v' : Value} {B : Nat} (h : Grew w w' v v') (hB : B ≤ w.heap.size) (hv : ∀ k, v.ownBlock = some k → B ≤ k) : Below B w w' :=
  (Below.refl _ _).grown h.grown hB hv

theorem rowAt_one (w : World) (t : TypeId) (x : Int) (h0 : 0 ≤ x) (h1 : x ≤ 255) : RowAt (w.alloc (.cells #[.int .u8 x] t)) (some ⟨w.heap.size, 0, none⟩) [x] :=
  ⟨fun y hy => by simp at hy; omega, fun _ => ⟨_, 0, rfl, fun i hi => by
    obtain rfl : i = 0 := by simp at hi; omega
    simp⟩⟩
theorem rowAt_new (w : World) (t : TypeId) (xs : List Int) (fz : Nat × Nat) (h : isBytes xs) : RowAt (w.alloc (.cells (vals xs).toArray t fz)) (some ⟨w.heap.size, 0, none⟩) xs := by
  refine ⟨h, fun _ => ⟨_, 0, rfl, fun i hi => ?_⟩⟩
  rw [World.cell?_alloc_mark]
  simp [hi, List.getD]
theorem not_nil {g : Addr} {N c : Nat} {p : Prop} (h : Value.slice (some g) N c = .slice none 0 0 ∧ p) : False := by have := h.1; simp at this
theorem no_nil {a : Addr} {c : Nat} (h : some a = none) : c = 0 := by cases h
theorem own_shape {w : World} {v : Value} {xs : List Int} (h : Own w v xs) (hn : v ≠ .slice none 0 0) : ∃ g N c, v = .slice (some ⟨g, 0, none⟩) N c := by
  rcases h.2.2 with ⟨rfl, _⟩ | ⟨g, cap, cur, rfl, _⟩
  · exact absurd rfl hn
  · exact ⟨g, _, cap, rfl⟩
theorem own_slice {w : World} {v : Value} {xs : List Int} (h : Own w v xs) : ∃ a N c, v = .slice a N c := by
  obtain ⟨a, c, e, _⟩ := h.row
  exact ⟨a, _, c, e⟩
theorem own_len {w : World} {a : Option Addr} {N c : Nat} {xs : List Int} (h : Own w (.slice a N c) xs) : N = xs.length ∧ RowAt w a xs ∧ (a = none → c = 0) := by
  obtain ⟨ao, cap, e, hn, hr⟩ := h.row
  simp only [Value.slice.injEq] at e
  obtain ⟨rfl, rfl, rfl⟩ := e
  exact ⟨rfl, hr, fun h => (hn h).2⟩
theorem sum_at (ao : Option Addr) (N cap : Nat) (xs : List Int) (w : World) (hN : N = xs.length) (hl : xs.length ≤ 140737488355328) (hr : RowAt w ao xs) :
    Calls Tryz.prog 137 #[.slice ao N cap] w fun e w' => e = .returned (.int .u32 (adler xs)) ∧ w = w' := by
  subst hN
  exact (sum_any ao cap xs w hl hr).mono fun e w' h => ⟨h.1, h.2.symm⟩
theorem adler_bd (xs : List Int) : 0 ≤ adler xs ∧ adler xs ≤ 4294967295 := by
  have h1 := lo_bd xs
  have h2 := hi_bd xs
  unfold adler; omega
/-- ONE APPEND of a slice of bytes, nil or not. -/
theorem run_own_append (w : World) (ty : TypeId) (v : Value) (xs : List Int) (h : Own w v xs) (ao : Option Addr) (c : Nat) (news : List Int) (hr : RowAt w ao news) (hc : ao = none → c = 0) (hlen : xs.length + news.length ≤ 140737488355328) :
    ∃ v' w', (Builtin.append_ #[68, 68] ty #[v, .slice ao news.length c]).run Tryz.prog w = .ok v' w' ∧ Own w' v' (xs ++ news) ∧ Grew w w' v v' ∧ (v' = .slice none 0 0 ↔ v = .slice none 0 0 ∧ news = []) := by
  obtain ⟨i0, hi, hz0, hz1, hz2⟩ := info_parts info5
  have hby : isBytes (xs ++ news) := isBytes_append h.1 hr.1
  match ao with
  | none =>
    obtain rfl := hc rfl
    have hn : news = [] := by
      by_cases hn : news = []
      · exact hn
      · obtain ⟨b, off, he, _⟩ := hr.2 hn; cases he
    subst hn
    exact ⟨v, w, run_append_owned_none (P := Tryz.prog) (w := w) 0 68 ty 5 i0 1 Tryz.underlying68 hi v _ _ h.2, by simpa using h, Grew.refl _ _, by simp⟩
  | some ad =>
    obtain ⟨v', w', hrun, hown, hgrow, hnil⟩ := run_append_own (P := Tryz.prog) w 0 68 ty 5 i0 (.int .u8 0) 1 1 Tryz.underlying68 hi hz0 hz1 hz2 rfl (by decide) v xs.length (vals xs) h.2 ad news.length c (vals news) (by simp) hr.news (vals_oneCell news) (by unfold maxLen; omega) (by omega) (Nat.zero_le _)
    refine ⟨v', w', hrun, ⟨hby, by simpa using hown⟩, ⟨hgrow, ?_⟩, by simpa using hnil⟩
    rcases h.2.2 with ⟨rfl, hn0⟩ | ⟨g, cap, cur, rfl, hbg, hg, hnc, hcm, hcs, htake⟩
    · obtain rfl : xs = [] := List.eq_nil_of_length_eq_zero hn0
      by_cases hm : news = []
      · subst hm; left; simp at hnil; rw [hnil]
      · have hpos : 0 < news.length := List.length_pos_iff.2 hm
        have hr2 := run_append_nil (P := Tryz.prog) w 68 ty 5 i0 (.int .u8 0) Tryz.underlying68 hi hz0 ad news.length c (vals news) (by rw [hz1]; simp) hr.news (by omega) (by omega) (by rw [hz2]; omega)
        have e := hrun.symm.trans hr2
        right
        simp only [Result.ok.injEq] at e
        rw [e.1]
        exact ⟨w.heap.size, rfl, Nat.le_refl _⟩
    · by_cases hroom : xs.length + news.length ≤ cap
      · have hr2 := run_append_room (P := Tryz.prog) w 68 ty 5 i0 Tryz.underlying68 hi g xs.length cap cur hg ad news.length c (vals news) (by rw [hz1]; simp) hr.news (vals_oneCell news) hroom (by rw [hz1]; simp; omega)
        have e := hrun.symm.trans hr2
        simp only [Result.ok.injEq] at e
        left
        rw [e.1]; rfl
      · have hr2 := run_append_grow (P := Tryz.prog) w 68 ty 5 i0 (.int .u8 0) Tryz.underlying68 hi hz0 ⟨g, 0, none⟩ xs.length cap (vals xs) (by rw [hz1]; simp) (h.2.cells (g := g) rfl) ad news.length c (vals news) (by rw [hz1]; simp) hr.news (by omega) (by omega) (growslice_fits (by omega) (by rw [hz2]; omega))
        have e := hrun.symm.trans hr2
        simp only [Result.ok.injEq] at e
        right
        rw [e.1]
        exact ⟨w.heap.size, rfl, Nat.le_refl _⟩

theorem wpList_own_append {ops : Array Oper} {rest : List Oper} {o : Oper} {a : Act} {Q : Exit → Act → World → Prop} {w : World} (hgd : o.guard = none) (s x : Operand)
    (ho : o.op = .call { callee := .builtin .append, args := #[s, x], argTypes := #[68, 68] })
    (v : Value) (xs : List Int) (hs : a.eval s = v) (h : Own w v xs) (ao : Option Addr) (c : Nat) (news : List Int) (hx : a.eval x = .slice ao news.length c) (hr : RowAt w ao news) (hc : ao = none → c = 0) (hlen : xs.length + news.length ≤ 140737488355328)
    (hK : ∀ v' w', Own w' v' (xs ++ news) → Grew w w' v v' → (v' = .slice none 0 0 ↔ v = .slice none 0 0 ∧ news = []) → wpList Tryz.prog ops Q rest (a.put o.dst v') w') : wpList Tryz.prog ops Q (o :: rest) a w := by
  refine wpList_plain hgd fun K hK' => ?_
  obtain ⟨v', w', hrun, h2, h3, h4⟩ := run_own_append w o.type v xs h ao c news hr hc hlen
  unfold Oper.wp execOp
  simp only [ho, resolve, invoke, builtin, Sem.run_bind, Sem.run_pure, Result.andThen_ok, List.map_toArray, List.map_cons, List.map_nil, hs, hx, hrun]
  exact hK' _ _ (hK v' w' h2 h3 h4)
end Go.Proofs.YtchocojmideleaaGreatDoor.C
namespace Go.Proofs.YtchocojmideleaaGreatDoor.C
set_option linter.unusedVariables false
open Go.RowKit

/-- The bytes of a number: sevens of bits, the lowest first; fuel: ten suffice for 64 bits. -/
def enc : Nat → Int → List Int
  | 0, _ => []
  | f + 1, n => if 128 ≤ n then (n % 128 + 128) :: enc f (n / 128) else [n]
theorem enc_bytes (f : Nat) (n : Int) (h : 0 ≤ n) : isBytes (enc f n) := by
  induction f generalizing n with
  | zero => exact isBytes_nil
  | succ f ih =>
    unfold enc
    split
    · intro x hx
      rcases List.mem_cons.1 hx with rfl | hx
      · omega
      · exact ih _ (by omega) x hx
    · intro x hx; simp at hx; omega
theorem enc_len (f : Nat) (n : Int) : (enc f n).length ≤ f := by
  induction f generalizing n with
  | zero => simp [enc]
  | succ f ih =>
    unfold enc
    split
    · have := ih (n / 128); simp; omega
    · simp
theorem orMore (n : Int) (h0 : 0 ≤ n) (h1 : n < 256) : bits .or .u8 n 128 = n % 128 + 128 := by
  rw [u8_or n 128 h0 h1 (by decide) (by decide)]
  have e : n.toNat ||| 128 = n.toNat % 128 + 128 := by
    have h : ∀ m : Nat, m < 256 → m ||| 128 = m % 128 + 128 := by decide +kernel
    exact h n.toNat (by omega)
  show ((n.toNat ||| 128 : Nat) : Int) = _
  rw [e]; omega

theorem enc_step (f : Nat) (m : Int) (h : 128 ≤ m) : enc (f + 1) m = (m % 128 + 128) :: enc f (m / 128) := by rw [enc, if_pos h]
theorem enc_last (f : Nat) (m : Int) (h : m < 128) : enc (f + 1) m = [m] := by rw [enc, if_neg (by omega)]

set_option maxRecDepth 100000 in
set_option maxHeartbeats 1000000 in
theorem appnum_any (v : Value) (ys : List Int) (n : Int) (w : World) (h0 : 0 ≤ n) (h1 : n ≤ 18446744073709551615) (hl : ys.length ≤ 140737488355300) (hown : Own w v ys) :
    Calls Tryz.prog 126 #[v, .int .u64 n] w fun e w' => ∃ g N c, e = .returned (.slice (some ⟨g, 0, none⟩) N c) ∧ Own w' (.slice (some ⟨g, 0, none⟩) N c) (ys ++ enc 10 n) ∧ Grew w w' v (.slice (some ⟨g, 0, none⟩) N c) := by
  go_enter Tryz.func126, Tryz.ntmps126
  go_wp2
  go_loopw [0, 1] (fun s t wr => ∃ (zs : List Int) (m : Int) (f : Nat), t = .int .u64 m ∧ 0 ≤ m ∧ m < 128 ^ (f + 1) ∧ m ≤ 18446744073709551615 ∧ f ≤ 9 ∧ zs.length + f = 9 ∧ zs ++ enc (f + 1) m = enc 10 n ∧ Own wr s (ys ++ zs) ∧ Grew w wr v s)
    (fun _ t _ => (intOf t).toNat)
  case atStart => exact ⟨[], n, 9, rfl, h0, by omega, h1, by omega, rfl, rfl, by simpa using hown, Grew.refl _ _⟩
  case round =>
    obtain ⟨zs, m, f, rfl, hm0, hmf, hm1, hf, hzl, henc, ho, hg⟩ := hrel
    by_cases hbig : 128 ≤ m
    · have HE : Hid (enc (f + 1) m = (m % 128 + 128) :: enc f (m / 128)) := enc_step f m hbig
      obtain ⟨f, rfl⟩ : ∃ f', f = f' + 1 := ⟨f - 1, by rcases f with _ | f <;> omega⟩
      have hmf' : m / 128 < 128 ^ (f + 1) := by rw [Int.pow_succ] at hmf; omega
      clear hmf
      have HO : Hid (bits .or .u8 (m % 256) 128 = m % 256 % 128 + 128) := orMore _ (by omega) (by omega)
      go_wp2_with (at_builtin; refine wpList_own_append rfl (.tmp 7) (.tmp 11) rfl _ _ rfl (ho.alloc _) (some ⟨wr.heap.size, 0, none⟩) 1 [bits .or .u8 (m % 256) 128] rfl ?hr no_nil ?hl ?_)
      case hr => exact rowAt_one _ _ _ (by rw [HO.out]; omega) (by rw [HO.out]; omega)
      case hl => (try simp); omega
      intro v1 w1 ho1 hg1 hn1
      go_wp2
      go_roundw
      case rel =>
        refine ⟨zs ++ [m % 128 + 128], m / 128, f, by go_num, by omega, hmf', by omega, by omega, by simp; omega, by rw [← henc, HE.out]; simp, ?_, hg.trans (((Grew.refl _ _).alloc _).trans hg1)⟩
        rw [HO.out] at ho1
        have e : m % 256 % 128 = m % 128 := by omega
        rw [e] at ho1
        simpa using ho1
      case measure => simp [intOf]; omega
    · have HE : Hid (enc (f + 1) m = [m]) := enc_last f m (by omega)
      go_wp2_with (at_builtin; refine wpList_own_append rfl (.tmp 15) (.tmp 18) rfl _ _ rfl (ho.alloc _) (some ⟨wr.heap.size, 0, none⟩) 1 [m] rfl ?hr no_nil ?hl ?_)
      case hr => exact rowAt_one _ _ _ (by omega) (by omega)
      case hl => (try simp); omega
      intro v1 w1 ho1 hg1 hn1
      go_wp2
      go_ret
      obtain ⟨g, N, c, rfl⟩ := own_shape ho1 (fun h => by first | exact hn1 h | (have := hn1.1 h; simp at this))
      refine ⟨g, N, c, rfl, ?_, hg.trans (((Grew.refl _ _).alloc _).trans hg1)⟩
      rw [← henc, HE.out]
      simpa using ho1
end Go.Proofs.YtchocojmideleaaGreatDoor.C
