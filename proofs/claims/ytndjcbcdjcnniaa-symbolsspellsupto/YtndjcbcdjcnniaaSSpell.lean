import Derived.Test.YtndjcbcdjcnniaaSBld
namespace Go.Proofs.Ytndjcbcdjcnniaa
set_option linter.unusedVariables false
open Go.RowKit Go.Shelf

/-- Symbols that can be read in w. -/
def SymRow (w : World) (ao : Option Addr) (l : List (Int × Int)) : Prop := l ≠ [] → ∃ b off, ao = some ⟨b, off, none⟩ ∧ b < w.heap.size ∧ ∀ i, i < l.length →
  w.cell? ⟨b, off + i * 2, none⟩ = some (.int .i64 (l.getD i (0, 0)).1) ∧ w.cell? ⟨b, off + i * 2 + 1, none⟩ = some (.int .i64 (l.getD i (0, 0)).2)
theorem SymRow.later {B : Nat} {w w' : World} {ao : Option Addr} {l : List (Int × Int)} (h : SymRow w ao l) (hB : w.heap.size ≤ B) (hb : Below B w w') : SymRow w' ao l := by
  intro hne
  obtain ⟨b, off, rfl, hl, hc⟩ := h hne
  refine ⟨b, off, rfl, Nat.lt_of_lt_of_le hl hb.size, fun i hi => ?_⟩
  have e : ∀ j, w'.cell? ⟨b, j, none⟩ = w.cell? ⟨b, j, none⟩ := fun j => hb.cell (p := ⟨b, j, none⟩) (by show b < B; omega)
  rw [e, e]
  exact hc i hi
def nameU (ts ns : List ByteArray) (q : Int × Int) : List UInt8 := (nameF ts ns q.1 q.2).1.data.toList
def okN (ts ns : List ByteArray) (q : Int × Int) : Bool := (nameF ts ns q.1 q.2).2
abbrev IsB (B b : Nat) (l : List UInt8) (w : World) : Prop := Lib.IsBuilder 120 5 B b (Lib.byteCells l) w
theorem IsB.later {B b : Nat} {l : List UInt8} {w w' : World} (h : IsB B b l w) (hb : Below w.heap.size w w') : IsB B b l w' := by
  have key : ∀ p, Lib.BuilderAt 120 5 B b p (Lib.byteCells l) w → Lib.BuilderAt 120 5 B b p (Lib.byteCells l) w' := by
    rintro p ⟨h1, v, h2, h3, h4⟩
    refine ⟨h1, v, (hb.block b (lt_of_block h2)).trans h2, ⟨h3.1, ?_⟩, h4⟩
    rcases h3.2 with q | ⟨g, cap, cur, rfl, q1, q2, q3⟩
    · exact .inl q
    · exact .inr ⟨g, cap, cur, rfl, q1, (hb.block g (lt_of_block q2)).trans q2, q3⟩
  rcases h with h | h
  · exact .inl (key _ h)
  · exact .inr (key _ h)
theorem isB_new (w : World) : IsB w.heap.size w.heap.size [] (w.alloc (.cells #[.pointer none, .slice none 0 0] 120)) :=
  .inl ⟨Nat.le_refl _, _, heap_alloc_new w _, World.ownsRow_nil _ _ _ _, by simp [Value.ownBlock]⟩
theorem wbyte_any {B b : Nat} {l : List UInt8} {w : World} (h : IsB B b l w) (hlen : l.length ≤ 1000000000) (hBw : B ≤ w.heap.size) :
    Calls Try.prog 54 #[.pointer (some ⟨b, 0, none⟩), .int .u8 32] w fun e w' => e = .returned .nilIface ∧ IsB B b (l ++ [32]) w' ∧ Below B w w' :=
  (Any.Builder_WriteByte bld167 bldX B b (Lib.byteCells l) 32 w h (by rw [Lib.byteCells_length]; omega) hBw).mono fun e w' ⟨he, h1, h2⟩ => ⟨he, .inr (by
    have e : Lib.byteCells (l ++ [32]) = Lib.byteCells l ++ [.int .u8 32] := by simp [Lib.byteCells]
    rw [e]; exact h1), h2⟩
theorem wstr_any {B b : Nat} {l : List UInt8} {w : World} (s : ByteArray) (h : IsB B b l w) (hlen : l.length ≤ 1000000000) (hs : s.size ≤ 1000000000) (hBw : B ≤ w.heap.size) :
    Calls Try.prog 55 #[.pointer (some ⟨b, 0, none⟩), .string s] w fun e w' => e = .returned (.tuple #[.int .i64 s.size, .nilIface]) ∧ IsB B b (l ++ s.data.toList) w' ∧ Below B w w' :=
  (Any.Builder_WriteString bld166 bldX B b (Lib.byteCells l) s w h (by rw [Lib.byteCells_length]; omega) hBw).mono fun e w' ⟨he, h1, h2⟩ => ⟨he, .inr (by
    have e : Lib.byteCells (l ++ s.data.toList) = Lib.byteCells l ++ Lib.strCells s := by simp [Lib.byteCells, Lib.strCells]
    rw [e]; exact h1), h2⟩
theorem bstr_any {B b : Nat} {l : List UInt8} {w : World} (h : IsB B b l w) (hBw : B ≤ w.heap.size) :
    Calls Try.prog 56 #[.pointer (some ⟨b, 0, none⟩)] w fun e w' => e = .returned (.string ⟨l.toArray⟩) ∧ Below B w w' := Any.Builder_String_any bld169 bldX B b l w h hBw
theorem join_step (xs : List (List UInt8)) (x : List UInt8) (k : Nat) (hk : k = xs.length) : joinU (xs ++ [x]) = if k = 0 then x else joinU xs ++ [32] ++ x := by
  subst hk
  cases xs with
  | nil => rfl
  | cons y r => rw [joinU_snoc _ _ (by simp), if_neg (by simp)]; simp
theorem join_bound (ts ns : List ByteArray) (l : List (Int × Int)) (hz : ∀ q ∈ l, (nameF ts ns q.1 q.2).1.size ≤ 32) (hl : l.length ≤ 1048576) (k : Nat) : (joinU ((l.take k).map (nameU ts ns))).length ≤ 34603008 := by
  have := joinU_len ((l.take k).map (nameU ts ns)) 32 fun x hx => by
    obtain ⟨q, hq, rfl⟩ := List.mem_map.1 hx
    have := hz q (List.mem_of_mem_take hq)
    show ((nameF ts ns q.1 q.2).1.data.toList).length ≤ 32
    rw [Array.length_toList]
    exact this
  simp only [List.length_map, List.length_take] at this
  have : min k l.length ≤ 1048576 := Nat.le_trans (Nat.min_le_right _ _) hl
  omega
set_option maxRecDepth 100000 in
set_option maxHeartbeats 4000000 in
theorem spell_any (ta na la : Option Addr) (tc nc lc : Nat) (ts ns : List ByteArray) (l : List (Int × Int)) (w : World) (h1 : ts.length ≤ 64) (h2 : ns.length ≤ 64) (hr1 : StrRow w ta ts) (hr2 : StrRow w na ns) (hr3 : SymRow w la l) (hz : ∀ q ∈ l, (nameF ts ns q.1 q.2).1.size ≤ 32) (hl : l.length ≤ 1048576) :
    Calls Try.prog 14 #[.slice ta ts.length tc, .slice na ns.length nc, .slice la l.length lc] w fun e w' => ((∀ q ∈ l, okN ts ns q = true) ∧ e = .returned (.tuple #[.string ⟨(joinU (l.map (nameU ts ns))).toArray⟩, .int .i64 0]) ∨ (∃ q ∈ l, okN ts ns q = false) ∧ e = .returned (.tuple #[.string ⟨#[]⟩, .int .i64 35])) ∧ Below w.heap.size w w' := by
  have HJ : Hid (∀ k, (joinU ((l.take k).map (nameU ts ns))).length ≤ 34603008) := join_bound ts ns l hz hl
  have HI : Hid (IsB w.heap.size w.heap.size (joinU ((l.take 0).map (nameU ts ns))) (w.alloc (.cells #[.pointer none, .slice none 0 0] 120))) := isB_new w
  have HB0 : Hid (Below w.heap.size w (w.alloc (.cells #[.pointer none, .slice none 0 0] 120))) := below_alloc w _
  have HN : Hid (∀ w', Below w.heap.size w w' → ∀ (k n : Int) (x : ByteArray) (ok : Bool), nameF ts ns k n = (x, ok) → Calls Try.prog 53 #[.slice ta ts.length tc, .slice na ns.length nc, .agg #[.int .i64 k, .int .i64 n]] w' fun e w'' => e = .returned (.tuple #[.string x, .bool ok]) ∧ Below w'.heap.size w' w'') := fun w' hb k n x ok hx => by
    have := nameof_any ta na _ _ tc nc ts ns k n w' rfl rfl (hr1.later hb) (hr2.later hb) (by omega) (by omega)
    rw [hx] at this
    exact this
  have HZ : Hid (∀ q ∈ l, (nameF ts ns q.1 q.2).1.size ≤ 32) := hz
  have HR : Hid (SymRow w la l) := hr3
  clear hz hr3 hr1 hr2 h1 h2
  go_enter Try.func14, Try.ntmps14
  go_wp2
  go_loopw [15] (fun i wr => ∃ k : Nat, k ≤ l.length ∧ i = .int .i64 k ∧ (∀ q ∈ l.take k, okN ts ns q = true) ∧ IsB w.heap.size w.heap.size (joinU ((l.take k).map (nameU ts ns))) wr ∧ Below w.heap.size w wr) (fun i _ => l.length - (intOf i).toNat)
  case atStart => exact ⟨0, Nat.zero_le _, rfl, (fun q hq => by simp at hq), HI.out, HB0.out⟩
  case round =>
    clear HI HB0
    obtain ⟨k, hk, rfl, hok', hI', hB'⟩ := hrel
    have hok : Hid _ := hok'
    have hI : Hid _ := hI'
    have hB : Hid _ := hB'
    clear hok' hI' hB'
    by_cases hlt : k < l.length
    · obtain ⟨b, off, rfl, hbl, hc⟩ := (HR.out.later (Nat.le_refl _) hB.out) (by intro e; subst e; simp at hlt)
      obtain ⟨c0, c1⟩ := hc k hlt
      have hmem : Hid (l.getD k (0, 0) ∈ l) := by show _ ∈ _; simp [List.getD, hlt]
      have hz1 : Hid ((nameF ts ns (l.getD k (0, 0)).1 (l.getD k (0, 0)).2).1.size ≤ 32) := HZ.out _ hmem.out
      have htk : Hid (l.take (k + 1) = l.take k ++ [l.getD k (0, 0)]) := by show _ = _; rw [List.take_succ_eq_append_getElem hlt]; simp [List.getD, hlt]
      have hBox := below_alloc wr (.cells #[.int .i64 (l.getD k (0, 0)).1, .int .i64 (l.getD k (0, 0)).2] 61)
      have hBA : Hid (Below w.heap.size w (wr.alloc (.cells #[.int .i64 (l.getD k (0, 0)).1, .int .i64 (l.getD k (0, 0)).2] 61))) := hB.out.trans (hBox.mono hB.out.size)
      have hIA : Hid (IsB w.heap.size w.heap.size (joinU ((l.take k).map (nameU ts ns))) (wr.alloc (.cells #[.int .i64 (l.getD k (0, 0)).1, .int .i64 (l.getD k (0, 0)).2] 61))) := IsB.later hI.out hBox
      obtain ⟨x, ok, hx'⟩ : ∃ x ok, nameF ts ns (l.getD k (0, 0)).1 (l.getD k (0, 0)).2 = (x, ok) := ⟨_, _, rfl⟩
      have hx : Hid _ := hx'
      have hxs : Hid (x.size ≤ 32) := by have := hz1.out; rw [hx'] at this; exact this
      have hxn : Hid (nameU ts ns (l.getD k (0, 0)) = x.data.toList) := by show _ = _; unfold nameU; rw [hx']
      have hxo : Hid (okN ts ns (l.getD k (0, 0)) = ok) := by show _ = _; unfold okN; rw [hx']
      clear hc hBox hx' hI hz1
      have hjs : Hid (joinU ((l.take (k + 1)).map (nameU ts ns)) = if k = 0 then x.data.toList else joinU ((l.take k).map (nameU ts ns)) ++ [32] ++ x.data.toList) := by
        show _ = _
        rw [htk.out, List.map_append, List.map_cons, List.map_nil, hxn.out, join_step _ _ k (by simp; omega)]
      have hfin : Hid (ok = true → ∀ q ∈ l.take (k + 1), okN ts ns q = true) := fun ho q hq => by
        rw [htk.out] at hq
        rcases List.mem_append.1 hq with r | r
        · exact hok.out q r
        · simp at r; rw [r, ← ho]; exact hxo.out
      generalize l.getD k (0, 0) = q0 at *
      obtain ⟨q1, q2⟩ := q0
      simp only at c0 c1
      cases ok with
      | false =>
        go_wp2_with (first
          | (go_at_call 53; refine (HN.out _ hBA.out q1 q2 x false hx.out).mono ?_; rintro e w3 ⟨rfl, b3⟩; have B3 := hBA.out.trans (b3.mono hBA.out.size); clear b3))
        go_returns
        exact ⟨.inr ⟨⟨(q1, q2), hmem.out, hxo.out⟩, rfl⟩, B3⟩
      | true =>
        by_cases hk0 : k = 0
        · subst hk0
          simp only [Nat.zero_mul, Nat.add_zero] at c0 c1
          have hnil : Hid (joinU ((l.take 0).map (nameU ts ns)) = []) := rfl
          go_wp2_with (first
            | (go_at_call 53; refine (HN.out _ hBA.out q1 q2 x true hx.out).mono ?_; rintro e w3 ⟨rfl, b3⟩; have B3 := hBA.out.trans (b3.mono hBA.out.size); have I3 := IsB.later hIA.out b3; clear b3)
            | (go_at_call 55; refine (wstr_any x I3 (Nat.le_trans (HJ.out 0) (by decide)) (Nat.le_trans hxs.out (by decide)) B3.size).mono ?_; rintro e w4 ⟨rfl, I4, b4⟩; have B4 := B3.trans b4; clear b4 I3 B3))
          go_roundw
          case rel =>
            refine ⟨0 + 1, by omega, by go_num, hfin.out (by simp), ?_, B4⟩
            rw [hjs.out]
            first | rw [if_pos rfl] | rw [if_pos trivial]
            rw [hnil.out] at I4
            exact I4
          case measure => simp [intOf]; omega
        · have hkp : (k : Int) > 0 := by omega
          go_wp2_with (first
            | (go_at_call 53; refine (HN.out _ hBA.out q1 q2 x true hx.out).mono ?_; rintro e w3 ⟨rfl, b3⟩; have B3 := hBA.out.trans (b3.mono hBA.out.size); have I3 := IsB.later hIA.out b3; clear b3)
            | (go_at_call 54; refine (wbyte_any I3 (Nat.le_trans (HJ.out k) (by decide)) B3.size).mono ?_; rintro e w5 ⟨rfl, I5, b5⟩; have B5 := B3.trans b5; clear b5 I3 B3)
            | (go_at_call 55; refine (wstr_any x I5 (Nat.le_trans (Nat.le_of_eq List.length_append) (Nat.le_trans (Nat.add_le_add_right (HJ.out k) 1) (by decide))) (Nat.le_trans hxs.out (by decide)) B5.size).mono ?_; rintro e w4 ⟨rfl, I4, b4⟩; have B4 := B5.trans b4; clear b4 I5 B5))
          go_roundw
          case rel =>
            refine ⟨k + 1, by omega, by go_num, hfin.out (by simp), ?_, B4⟩
            rw [hjs.out, if_neg hk0]
            exact I4
          case measure => simp [intOf]; omega
    · obtain rfl : k = l.length := by omega
      have hok2 := hok.out
      have hI2 := hI.out
      rw [List.take_length] at hok2 hI2
      clear HN HR HZ HJ hok hI
      go_wp2_with (first
        | (go_at_call 56; refine (bstr_any hI2 hB.out.size).mono ?_; rintro e w4 ⟨rfl, b4⟩; have B4 := hB.out.trans b4; clear b4))
      go_returns
      exact ⟨.inl ⟨hok2, rfl⟩, B4⟩
end Go.Proofs.Ytndjcbcdjcnniaa
