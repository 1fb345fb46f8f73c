import Derived.Test.YtboabidokkghbaaGreatReaderToPeek
import Derived.Test.YtboabidokkghbaaGreatWText
namespace Go.Proofs.YtboabidokkghbaaGreat.C
set_option linter.unusedVariables false
open Go.RowKit

/-- What peek's answer says. -/
theorem peekS_facts (xs : List Int) (hb : isBytes xs) (pos : Nat) (hpos : pos ≤ xs.length) (most n s e : Int) (h : peekS xs pos most = (n, s, e)) :
    (e ≠ 0 → n = 0 ∧ s = 0) ∧ (e = 0 → 1 ≤ s ∧ s ≤ 10 ∧ pos + s ≤ xs.length ∧ 0 ≤ n ∧ n ≤ most ∧ n < 18446744073709551616 ∧ parse (xs.drop pos) = (n, s, 0)) := by
  obtain ⟨n', s', e', hp⟩ : ∃ n s e, parse (xs.drop pos) = (n, s, e) := ⟨_, _, _, rfl⟩
  obtain ⟨_, hf⟩ := parse_facts (xs.drop pos) (isBytes_drop hb pos) n' s' e' hp
  rw [peekS, hp] at h
  by_cases h1 : e' = 0
  · subst h1
    rw [if_neg (by simp)] at h
    by_cases h2 : most < n'
    · rw [if_pos h2] at h
      simp only [Prod.mk.injEq] at h
      obtain ⟨rfl, rfl, rfl⟩ := h
      exact ⟨fun _ => ⟨rfl, rfl⟩, fun h => by simp at h⟩
    · rw [if_neg h2] at h
      simp only [Prod.mk.injEq] at h
      obtain ⟨rfl, rfl, rfl⟩ := h
      have := hf rfl
      simp only [List.length_drop] at this
      exact ⟨fun h => absurd rfl h, fun _ => ⟨by omega, by omega, by omega, by omega, by omega, by omega, hp⟩⟩
  · rw [if_pos h1] at h
    simp only [Prod.mk.injEq] at h
    obtain ⟨rfl, rfl, rfl⟩ := h
    exact ⟨fun _ => ⟨rfl, rfl⟩, fun h => absurd h h1⟩

def countS (xs : List Int) (pos : Nat) (least most : Int) : Int × Int × Int :=
  if least < 1 ∨ most < 0 then (0, 0, 1)
  else if (peekS xs pos most).2.2 ≠ 0 then (0, 0, (peekS xs pos most).2.2)
  else if ((xs.length : Int) - pos - (peekS xs pos most).2.1) / least < (peekS xs pos most).1 then (0, 0, 11)
  else ((peekS xs pos most).1, (peekS xs pos most).2.1, 0)

/-- The result's own block, behind a call that turned block r alone. -/
theorem ROnly.own2 {w w2 : World} {r : Nat} {a b : Value} {t : TypeId} (h : ROnly (w.alloc (.cells #[a, b] t)) w2 r) (hr : r < w.heap.size) :
    w2.heap[w.heap.size]? = some (.cells #[a, b] t) :=
  (h.block w.heap.size (by simp) (by omega)).trans (heap_alloc_new w _)
theorem cells2 {w : World} {b : Nat} {x y : Value} {t : TypeId} (h : w.heap[b]? = some (.cells #[x, y] t)) : w.cell? ⟨b, 0, none⟩ = some x ∧ w.cell? ⟨b, 1, none⟩ = some y ∧ w.frozen? ⟨b, 0, none⟩ = false ∧ w.frozen? ⟨b, 1, none⟩ = false :=
  ⟨by simp [World.cell?, h], by simp [World.cell?, h], by simp [World.frozen?, h], by simp [World.frozen?, h]⟩

theorem countS_facts (xs : List Int) (hb : isBytes xs) (pos : Nat) (hpos : pos ≤ xs.length) (least most n s e : Int) (h : countS xs pos least most = (n, s, e)) :
    (e ≠ 0 → n = 0 ∧ s = 0) ∧ (e = 0 → 1 ≤ least ∧ 1 ≤ s ∧ s ≤ 10 ∧ pos + s ≤ xs.length ∧ 0 ≤ n ∧ n ≤ most ∧ n ≤ ((xs.length : Int) - pos - s) / least ∧ n < 18446744073709551616) := by
  rw [countS] at h
  by_cases hbad : least < 1 ∨ most < 0
  · rw [if_pos hbad] at h
    simp only [Prod.mk.injEq] at h
    obtain ⟨rfl, rfl, rfl⟩ := h
    exact ⟨fun _ => ⟨rfl, rfl⟩, fun h => by simp at h⟩
  · rw [if_neg hbad] at h
    obtain ⟨n', s', e', hp⟩ : ∃ n s e, peekS xs pos most = (n, s, e) := ⟨_, _, _, rfl⟩
    obtain ⟨f1, f2⟩ := peekS_facts xs hb pos hpos most n' s' e' hp
    rw [hp] at h
    by_cases he : e' = 0
    · subst he
      rw [if_neg (by simp)] at h
      by_cases hle : ((xs.length : Int) - pos - s') / least < n'
      · rw [if_pos hle] at h
        simp only [Prod.mk.injEq] at h
        obtain ⟨rfl, rfl, rfl⟩ := h
        exact ⟨fun _ => ⟨rfl, rfl⟩, fun h => by simp at h⟩
      · rw [if_neg hle] at h
        simp only [Prod.mk.injEq] at h
        obtain ⟨rfl, rfl, rfl⟩ := h
        obtain ⟨g1, g2, g3, g4, g5, g6, _⟩ := f2 rfl
        exact ⟨fun h => absurd rfl h, fun _ => ⟨by omega, g1, g2, g3, g4, g5, by omega, g6⟩⟩
    · rw [if_pos he] at h
      simp only [Prod.mk.injEq] at h
      obtain ⟨rfl, rfl, rfl⟩ := h
      exact ⟨fun _ => ⟨rfl, rfl⟩, fun h => absurd h he⟩

/-- What End says. -/
def endS (xs : List Int) (pos : Nat) (err : Int) : Int × Int := if err ≠ 0 then (err, pos) else if pos < xs.length then (12, pos) else (0, 0)
end Go.Proofs.YtboabidokkghbaaGreat.C
namespace Go.Proofs.YtboabidokkghbaaGreat.C
set_option linter.unusedVariables false
open Go.RowKit

/-- What a reading leaves: value, place, error. -/
def takeS (xs : List Int) (pos : Nat) (err most : Int) : Int × Nat × Int :=
  if err ≠ 0 then (0, pos, err)
  else if (peekS xs pos most).2.2 ≠ 0 then (0, pos, (peekS xs pos most).2.2)
  else ((peekS xs pos most).1, pos + (peekS xs pos most).2.1.toNat, 0)
end Go.Proofs.YtboabidokkghbaaGreat.C
namespace Go.Proofs.YtboabidokkghbaaGreat.C
set_option linter.unusedVariables false
open Go.RowKit

def unfoldS (n : Int) : Int := if n % 2 = 1 then -(n / 2) - 1 else n / 2
theorem unfold_fold (n : Int) : unfoldS (foldS n) = n := by
  unfold unfoldS foldS
  by_cases h : n < 0
  · rw [if_pos h, if_pos (by omega)]; omega
  · rw [if_neg h, if_neg (by omega)]; omega
/-- 'data[from:at]'. -/
theorem slice_mid (g N cap lo n : Nat) (h1 : lo + n ≤ N) (h2 : N ≤ cap) :
    ∃ ad c', (∀ w, (Instr.slice 96 (.slice (some ⟨g, 0, none⟩) N cap) (some (.int .i64 lo)) (some (.int .i64 ((lo : Int) + n))) none).run Tryz.prog w = .ok (.slice (some ad) n c') w) ∧ ∀ w xs, RowAt w (some ⟨g, 0, none⟩) xs → xs.length = N → RowAt w (some ad) ((xs.drop lo).take n) := by
  obtain ⟨i0, hi, _, hz1, _⟩ := info_parts info5
  have hu : Tryz.prog.underlying 96 = some (.slice (Tryz.prog.elem 96)) := by kernel_rfl
  have he : Tryz.prog.elem 96 = 5 := by kernel_rfl
  have hrun : ∀ w : World, (Instr.slice 96 (.slice (some ⟨g, 0, none⟩) N cap) (some (.int .i64 lo)) (some (.int .i64 ((lo : Int) + n))) none).run Tryz.prog w = .ok (sliced (some ⟨g, 0, none⟩) lo (lo + n) cap 1) w := by
    intro w
    have := run_slice_lh (P := Tryz.prog) (w := w) 96 (some ⟨g, 0, none⟩) N cap hu .i64 .i64 lo ((lo : Int) + n) (by omega) (by omega) (by omega)
    rw [this, he]
    have e1 : (lo : Int).toNat = lo := by omega
    have e2 : ((lo : Int) + (n : Int)).toNat = lo + n := by omega
    rw [e1, e2]
    simp [sizeOf, typeInfo, hi, hz1]
  by_cases hcp : cap = lo
  · refine ⟨⟨g, 0, none⟩, cap - lo, fun w => by rw [hrun w]; simp [sliced, hcp], fun w xs hr hx => ?_⟩
    obtain rfl : n = 0 := by omega
    simpa using RowAt.nil w (some ⟨g, 0, none⟩)
  · refine ⟨⟨g, 0 + lo, none⟩, cap - lo, fun w => by rw [hrun w]; simp [sliced, hcp, add_none], fun w xs hr hx => ?_⟩
    exact (hr.drop lo).take n
def toStr (zs : List Int) : ByteArray := ⟨(zs.map fun x => UInt8.ofNat x.toNat).toArray⟩
theorem toStr_bytes (zs : List Int) (hb : isBytes zs) : strBytes (toStr zs) = zs := by
  simp only [strBytes, toStr, List.map_map, Function.comp_def]
  conv => rhs; rw [← List.map_id zs]
  apply List.map_congr_left
  intro x hx
  have := hb x hx
  simp
  omega
theorem conv_str (w : World) (ad : Addr) (c : Nat) (zs : List Int) (hr : RowAt w (some ad) zs) : (convert 96 9 (.slice (some ad) zs.length c)).run Tryz.prog w = .ok (.string (toStr zs)) w := by
  have := run_convert_bytes_back (P := Tryz.prog) w 96 9 5 ad c (zs.map fun x => UInt8.ofNat x.toNat) Tryz.underlying96 Tryz.underlying5 Tryz.underlying9 (fun j hj => by
    have hj' : j < zs.length := by simpa using hj
    have hn := hr.news j (.int .u8 zs[j]) (by simp [hj'])
    rw [hn]
    have hbj := hr.1 zs[j] (List.getElem_mem hj')
    simp
    omega)
  simpa [toStr] using this

end Go.Proofs.YtboabidokkghbaaGreat.C
namespace Go.Proofs.YtboabidokkghbaaGreat.C
set_option linter.unusedVariables false
open Go.RowKit

theorem takeS_err {xs : List Int} (hb : isBytes xs) {pos : Nat} (hpos : pos ≤ xs.length) {most n : Int} {p : Nat} {e : Int} (h : takeS xs pos 0 most = (n, p, e)) (he : e ≠ 0) : n = 0 ∧ pos = p ∧ e ≠ 12 := by
  rw [takeS, if_neg (by simp)] at h
  by_cases h1 : (peekS xs pos most).2.2 ≠ 0
  · rw [if_pos h1] at h
    simp only [Prod.mk.injEq] at h
    obtain ⟨rfl, rfl, rfl⟩ := h
    refine ⟨rfl, rfl, ?_⟩
    obtain ⟨n1, s1, e1, hp⟩ : ∃ n s e, parse (xs.drop pos) = (n, s, e) := ⟨_, _, _, rfl⟩
    obtain ⟨hf, _⟩ := parse_facts (xs.drop pos) (isBytes_drop hb pos) n1 s1 e1 hp
    rw [peekS, hp]
    by_cases q1 : e1 = 0
    · subst q1
      rw [if_neg (by simp)]
      by_cases q2 : most < n1
      · rw [if_pos q2]; simp
      · rw [if_neg q2]; simp
    · rw [if_pos q1]
      show e1 ≠ 12
      omega
  · rw [if_neg h1] at h
    simp only [Prod.mk.injEq] at h
    exact absurd h.2.2.symm he
/-- A number that is read: its bytes are its one form. -/
theorem takeS_ok {xs : List Int} (hb : isBytes xs) {pos : Nat} (hpos : pos ≤ xs.length) {most n : Int} {p : Nat} (h : takeS xs pos 0 most = (n, p, 0)) : 0 ≤ n ∧ n ≤ most ∧ n ≤ 18446744073709551615 ∧ pos < p ∧ p ≤ xs.length ∧ xs.take p = xs.take pos ++ enc 10 n := by
  rw [takeS, if_neg (by simp)] at h
  obtain ⟨n1, s1, e1, hp⟩ : ∃ n s e, peekS xs pos most = (n, s, e) := ⟨_, _, _, rfl⟩
  obtain ⟨_, f2⟩ := peekS_facts xs hb pos hpos most n1 s1 e1 hp
  rw [hp] at h
  by_cases h1 : e1 = 0
  · subst h1
    rw [if_neg (by simp)] at h
    simp only [Prod.mk.injEq, and_true] at h
    obtain ⟨rfl, rfl⟩ := h
    obtain ⟨g1, g2, g3, g4, g5, g6, g7⟩ := f2 rfl
    obtain ⟨_, _, r, hr, hs⟩ := parse_back (xs.drop pos) (isBytes_drop hb pos) n1 s1 g7
    refine ⟨g4, g5, by omega, by omega, by omega, ?_⟩
    have e : s1.toNat = (enc 10 n1).length := by omega
    rw [e, List.take_add, hr, List.take_left]
  · rw [if_pos h1] at h
    simp only [Prod.mk.injEq] at h
    exact absurd h.2.2 h1

theorem drewN_below {w w1 : World} {B : Nat} (h : Below B w w1) (n : Nat) : Below B w (w1.drewN n) := below_drewN h n
theorem wgrew_own {w w' : World} {q B : Nat} {v v' : Value} (h : WGrew w w' q v v') (hv : ∀ k, v.ownBlock = some k → B ≤ k) (hB : B ≤ w.heap.size) : ∀ k, v'.ownBlock = some k → B ≤ k := by
  intro k hk
  rcases h.moved with e | ⟨k', e, hk'⟩
  · exact hv k (e ▸ hk)
  · rw [hk] at e; have := Option.some.inj e; omega

end Go.Proofs.YtboabidokkghbaaGreat.C
namespace Go.Proofs.YtboabidokkghbaaGreat.C
set_option linter.unusedVariables false
open Go.RowKit

/-- A thing to lay down, as the law's list holds it. -/
structure PutV where
  what : Int
  V : Int
  N : Int
  s : ByteArray
def PutV.none : PutV := ⟨0, 0, 0, .empty⟩
structure PutV.ok (p : PutV) : Prop where
  w0 : -9223372036854775808 ≤ p.what
  w1 : p.what ≤ 9223372036854775807
  v0 : 0 ≤ p.V
  v1 : p.V ≤ 18446744073709551615
  n0 : -9223372036854775808 ≤ p.N
  n1 : p.N ≤ 9223372036854775807
  s1 : p.s.size ≤ 2000000
/-- The list lies in w. -/
def PutsAt (w : World) (ao : Option Addr) (ps : List PutV) : Prop :=
  (∀ p ∈ ps, p.ok) ∧ (ps ≠ [] → ∃ b off, ao = some ⟨b, off, Option.none⟩ ∧ ∀ i, i < ps.length →
    w.cell? ⟨b, off + i * 4, Option.none⟩ = some (.int .i64 (ps.getD i .none).what) ∧ w.cell? ⟨b, off + i * 4 + 1, Option.none⟩ = some (.int .u64 (ps.getD i .none).V) ∧
    w.cell? ⟨b, off + i * 4 + 2, Option.none⟩ = some (.int .i64 (ps.getD i .none).N) ∧ w.cell? ⟨b, off + i * 4 + 3, Option.none⟩ = some (.string (ps.getD i .none).s))
theorem PutsAt.later {w w' : World} {ao : Option Addr} {ps : List PutV} (h : PutsAt w ao ps) (hb : Below w.heap.size w w') : PutsAt w' ao ps := by
  refine ⟨h.1, fun hne => ?_⟩
  obtain ⟨b, off, he, hc⟩ := h.2 hne
  refine ⟨b, off, he, fun i hi => ?_⟩
  obtain ⟨c0, c1, c2, c3⟩ := hc i hi
  exact ⟨(hb.cell (p := ⟨b, off + i * 4, Option.none⟩) (World.block_lt_of_cell? w _ c0)).trans c0, (hb.cell (p := ⟨b, off + i * 4 + 1, Option.none⟩) (World.block_lt_of_cell? w _ c1)).trans c1, (hb.cell (p := ⟨b, off + i * 4 + 2, Option.none⟩) (World.block_lt_of_cell? w _ c2)).trans c2, (hb.cell (p := ⟨b, off + i * 4 + 3, Option.none⟩) (World.block_lt_of_cell? w _ c3)).trans c3⟩

def item (p : PutV) : List Int :=
  if p.what = 0 then enc 10 p.V else if p.what = 1 then enc 10 p.N else if p.what = 2 then enc 10 (foldS p.N) else if p.what = 4 then enc 10 p.s.size ++ strBytes p.s else []
def putS (st : List Int × Int) (p : PutV) : List Int × Int :=
  if st.2 ≠ 0 then st else if p.what = 1 ∧ p.N < 0 then (st.1, 4) else (st.1 ++ item p, 0)
def stAt (ps : List PutV) (j : Nat) : List Int × Int := (ps.take j).foldl putS ([], 0)
theorem stAt_zero (ps : List PutV) : stAt ps 0 = ([], 0) := rfl
theorem stAt_succ (ps : List PutV) (j : Nat) (h : j < ps.length) : stAt ps (j + 1) = putS (stAt ps j) (ps.getD j .none) := by
  unfold stAt
  have hg : ps.getD j .none = ps[j] := by simp [List.getD, h]
  rw [List.take_succ_eq_append_getElem h, List.foldl_append, List.foldl_cons, List.foldl_nil, hg]
theorem putS_err (st : List Int × Int) (p : PutV) (h : st.2 = 0 ∨ st.2 = 4) : (putS st p).2 = 0 ∨ (putS st p).2 = 4 := by
  unfold putS
  by_cases h1 : st.2 = 0
  · rw [if_neg (by simp [h1])]
    by_cases h2 : p.what = 1 ∧ p.N < 0
    · rw [if_pos h2]; exact .inr rfl
    · rw [if_neg h2]; exact .inl rfl
  · rw [if_pos h1]; exact h
theorem stAt_err (ps : List PutV) (j : Nat) (hj : j ≤ ps.length) : (stAt ps j).2 = 0 ∨ (stAt ps j).2 = 4 := by
  induction j with
  | zero => exact .inl rfl
  | succ j ih => rw [stAt_succ ps j (by omega)]; exact putS_err _ _ (ih (by omega))
theorem putS_sticky (st : List Int × Int) (p : PutV) (h : (putS st p).2 = 0) : st.2 = 0 ∧ ¬ (p.what = 1 ∧ p.N < 0) ∧ (putS st p).1 = st.1 ++ item p := by
  unfold putS at *
  by_cases h1 : st.2 = 0
  · rw [if_neg (by simp [h1])] at h ⊢
    by_cases h2 : p.what = 1 ∧ p.N < 0
    · rw [if_pos h2] at h; simp at h
    · rw [if_neg h2]; exact ⟨h1, h2, rfl⟩
  · rw [if_pos h1] at h; exact absurd h h1
theorem stAt_back (ps : List PutV) : ∀ (k j : Nat), j + k ≤ ps.length → (stAt ps (j + k)).2 = 0 → (stAt ps j).2 = 0 ∧ ∃ t, (stAt ps (j + k)).1 = (stAt ps j).1 ++ t := by
  intro k
  induction k with
  | zero => intro j _ h; exact ⟨h, [], by simp⟩
  | succ k ih =>
    intro j hj h
    have e : j + (k + 1) = (j + k) + 1 := by omega
    rw [e, stAt_succ ps (j + k) (by omega)] at h ⊢
    obtain ⟨h1, _, h3⟩ := putS_sticky _ _ h
    obtain ⟨h4, t, h5⟩ := ih j (by omega) h1
    exact ⟨h4, t ++ item (ps.getD (j + k) .none), by rw [h3, h5, List.append_assoc]⟩
/-- What lies in the whole behind the first j things. -/
theorem stAt_item (ps : List PutV) (j : Nat) (hj : j < ps.length) (h : (stAt ps ps.length).2 = 0) : (stAt ps j).2 = 0 ∧ ¬ ((ps.getD j .none).what = 1 ∧ (ps.getD j .none).N < 0) ∧ (stAt ps (j + 1)).1 = (stAt ps j).1 ++ item (ps.getD j .none) ∧ ∃ t, (stAt ps ps.length).1 = (stAt ps j).1 ++ (item (ps.getD j .none) ++ t) := by
  obtain ⟨h1, t, h2⟩ := stAt_back ps (ps.length - (j + 1)) (j + 1) (by omega) (by rw [show j + 1 + (ps.length - (j + 1)) = ps.length by omega]; exact h)
  rw [show j + 1 + (ps.length - (j + 1)) = ps.length by omega] at h2
  rw [stAt_succ ps j hj] at h1 h2 ⊢
  obtain ⟨a, b, c⟩ := putS_sticky _ _ h1
  exact ⟨a, b, c, t, by rw [h2, c, List.append_assoc]⟩
/-- How much at the most. -/
def tot (ps : List PutV) : Nat := (ps.map fun p => 10 + p.s.size).sum
theorem item_len (p : PutV) : (item p).length ≤ 10 + p.s.size := by
  have h1 := enc_len 10 p.V
  have h2 := enc_len 10 p.N
  have h3 := enc_len 10 (foldS p.N)
  have h4 := enc_len 10 (p.s.size : Int)
  have h5 := strBytes_len p.s
  unfold item
  split
  · omega
  · split
    · omega
    · split
      · omega
      · split
        · simp; omega
        · simp
theorem stAt_len (ps : List PutV) (j : Nat) (hj : j ≤ ps.length) : (stAt ps j).1.length ≤ tot (ps.take j) := by
  induction j with
  | zero => simp [stAt, tot]
  | succ j ih =>
    have hi := ih (by omega)
    rw [stAt_succ ps j (by omega), List.take_succ_eq_append_getElem (by omega)]
    have e : tot (ps.take j ++ [ps[j]]) = tot (ps.take j) + (10 + ps[j].s.size) := by unfold tot; rw [List.map_append, List.sum_append]; rfl
    rw [e]
    have hg : ps.getD j .none = ps[j] := by simp [List.getD, show j < ps.length by omega]
    rw [hg]
    have hl := item_len ps[j]
    unfold putS
    split
    · omega
    · split
      · simp; omega
      · simp; omega
theorem tot_take (ps : List PutV) (j : Nat) : tot (ps.take j) ≤ tot ps := by
  have e : tot ps = tot (ps.take j) + tot (ps.drop j) := by
    conv => lhs; rw [← List.take_append_drop j ps]
    unfold tot
    rw [List.map_append, List.sum_append]
  omega
theorem stAt_lim (ps : List PutV) (j : Nat) (hj : j ≤ ps.length) (h : tot ps ≤ 100000000) : (stAt ps j).1.length ≤ 100000000 := by
  have := stAt_len ps j hj
  have := tot_take ps j
  omega
theorem strBytes_inj {a b : ByteArray} (h : strBytes a = strBytes b) : a = b := by
  have : a.data.toList = b.data.toList := by
    unfold strBytes at h
    apply List.ext_getElem?
    intro i
    have hi := congrArg (·[i]?) h
    simp only [List.getElem?_map] at hi
    cases ha : a.data.toList[i]? <;> cases hb : b.data.toList[i]? <;> simp [ha, hb] at hi ⊢
    exact UInt8.toNat_inj.1 (by omega)
  cases a; cases b
  simp at this
  rw [this]
end Go.Proofs.YtboabidokkghbaaGreat.C
namespace Go.Proofs.YtboabidokkghbaaGreat.C
set_option linter.unusedVariables false
open Go.RowKit

theorem putS_good (xs : List Int) (er : Int) (p : PutV) (h : ¬ (p.what = 1 ∧ p.N < 0)) : putS (xs, er) p = (if er = 0 then xs ++ item p else xs, er) := by
  unfold putS
  by_cases h1 : er = 0
  · subst h1; rw [if_neg (by simp), if_neg h, if_pos rfl]
  · rw [if_pos h1, if_neg h1]
theorem putS_bad (xs : List Int) (er : Int) (p : PutV) (h : p.what = 1 ∧ p.N < 0) : putS (xs, er) p = (xs, if er = 0 then 4 else er) := by
  unfold putS
  by_cases h1 : er = 0
  · subst h1; rw [if_neg (by simp), if_pos h, if_pos rfl]
  · rw [if_pos h1, if_neg h1]
theorem takeS_enc (zs : List Int) (pos : Nat) (most n : Int) (t : List Int) (h : zs.drop pos = enc 10 n ++ t) (h0 : 0 ≤ n) (h1 : n < 18446744073709551616) (h2 : n ≤ most) : takeS zs pos 0 most = (n, pos + (enc 10 n).length, 0) := by
  have hp := parse_enc n t h0 h1
  have hk : peekS zs pos most = (n, ((enc 10 n).length : Int), 0) := by
    rw [peekS, h, hp, if_neg (by simp), if_neg (by simpa using h2)]
  rw [takeS, if_neg (by simp), hk, if_neg (by simp)]
  simp
theorem countS_enc (zs : List Int) (pos n : Nat) (most : Int) (u t : List Int) (h : zs.drop pos = enc 10 (n : Int) ++ (u ++ t)) (hu : u.length = n) (h1 : (n : Int) < 18446744073709551616) (h2 : (n : Int) ≤ most) : countS zs pos 1 most = ((n : Int), ((enc 10 (n : Int)).length : Int), 0) := by
  have hp := parse_enc n (u ++ t) (by omega) h1
  have hk : peekS zs pos most = ((n : Int), ((enc 10 (n : Int)).length : Int), 0) := by
    rw [peekS, h, hp, if_neg (by simp), if_neg (by simpa using h2)]
  have hl : zs.length - pos = (enc 10 (n : Int)).length + (n + t.length) := by
    have := congrArg List.length h
    simp [hu] at this
    omega
  have hne := enc_ne (n : Int)
  have hpos : 0 < (enc 10 (n : Int)).length := List.length_pos_iff.2 hne
  rw [countS, if_neg (by omega), hk, if_neg (by simp), if_neg]
  simp
  omega
theorem drop_pre (xs ys : List Int) : (xs ++ ys).drop xs.length = ys := List.drop_left
end Go.Proofs.YtboabidokkghbaaGreat.C
