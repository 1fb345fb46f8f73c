import Derived.Test.YtfckmbdcfeljiaaSRead0
namespace Go.Proofs.Ytfckmbdcfeljiaa
set_option linter.unusedVariables false
open Go.RowKit Go.Maps Go.Shelf
open PlainAid (bt)

/-- The i-th word of a text. -/
structure WordAt (s : ByteArray) (a : Nat) (x : ByteArray) : Prop where
  le : a + x.size ≤ s.size
  lt : a < s.size
  first : bt s a ≠ 32
  next : Lib.indexByte (s.extract a s.size).data.toList 32 = -1 ∧ s.size = a + x.size ∨ Lib.indexByte (s.extract a s.size).data.toList 32 = (x.size : Int)
  cut : s.extract a (a + x.size) = x
theorem extract_list (s : ByteArray) (a b : Nat) : (s.extract a b).data.toList = (s.data.toList.drop a).take (b - a) := by simp
theorem bytes_ext {x y : ByteArray} (h : x.data.toList = y.data.toList) : x = y := by
  cases x; cases y
  simp only [ByteArray.mk.injEq]
  exact Array.toList_inj.1 h
theorem bt_list (s : ByteArray) (a : Nat) (c : UInt8) (t : List UInt8) (h : s.data.toList.drop a = c :: t) : a < s.size ∧ bt s a = (c.toNat : Int) := by
  have hlt : a < s.data.toList.length := by
    have := congrArg List.length h
    simp only [List.length_drop, List.length_cons] at this
    omega
  have hs : a < s.size := by show a < s.data.size; rw [← Array.length_toList]; exact hlt
  refine ⟨hs, ?_⟩
  unfold bt
  rw [dif_pos hs]
  have e : s.data.toList[a]'hlt = c := by
    have := List.drop_eq_getElem_cons hlt
    rw [h] at this
    exact (List.cons.inj this).1.symm
  have e' : s[a]'hs = c := by rw [← e]; exact (Array.getElem_toList _).symm
  rw [e']
theorem word_at (xs : List ByteArray) (hS : ∀ x ∈ xs, Solid x) (i : Nat) (hi : i < xs.length) : WordAt ⟨(joinU (xs.map fun x => x.data.toList)).toArray⟩ (offU (xs.map fun x => x.data.toList) i) xs[i] := by
  obtain ⟨h1, h2, h3⟩ := hS xs[i] (List.getElem_mem hi)
  have hd := drop_off (xs.map fun x => x.data.toList) i (by simp; omega)
  have hc : (xs.map fun x => x.data.toList).drop i = xs[i].data.toList :: (xs.map fun x => x.data.toList).drop (i + 1) := by
    rw [List.drop_eq_getElem_cons (by simpa using hi)]
    simp
  rw [hc] at hd
  generalize (xs.map fun x => x.data.toList).drop (i + 1) = r at *
  generalize offU (xs.map fun x => x.data.toList) i = a at *
  generalize joinU (xs.map fun x => x.data.toList) = T at *
  generalize xs[i] = x at *
  have hx : x.data.toList.length = x.size := Array.length_toList
  have hsz : (⟨T.toArray⟩ : ByteArray).size = T.length := by show T.toArray.size = _; simp
  have hlen := congrArg List.length hd
  rw [List.length_drop] at hlen
  have hge : x.size ≤ (joinU (x.data.toList :: r)).length := by
    have := congrArg List.length (joinU_take x.data.toList r)
    rw [List.length_take] at this
    omega
  have hpos : 1 ≤ x.size := by
    rcases Nat.eq_zero_or_pos x.size with e | e
    · exact absurd (List.eq_nil_of_length_eq_zero (hx.trans e)) h2
    · exact e
  obtain ⟨t, ht⟩ := joinU_head x.data.toList r h2
  have hdt : (⟨T.toArray⟩ : ByteArray).data.toList.drop a = x.data.toList.head h2 :: t := by show T.toArray.toList.drop a = _; rw [List.toList_toArray, hd, ht]
  obtain ⟨q1, q2⟩ := bt_list _ a _ t hdt
  refine ⟨by rw [hsz]; omega, q1, ?_, ?_, ?_⟩
  · rw [q2]
    intro e
    have e2 : x.data.toList.head h2 = 32 := UInt8.toNat_inj.1 (by have h : ((x.data.toList.head h2).toNat : Int) = 32 := e; show (x.data.toList.head h2).toNat = 32; omega)
    exact h3 (e2 ▸ List.head_mem h2)
  · rw [extract_list]
    have e : (⟨T.toArray⟩ : ByteArray).data.toList.drop a = joinU (x.data.toList :: r) := by show T.toArray.toList.drop a = _; rw [List.toList_toArray, hd]
    rw [e, List.take_of_length_le (by rw [hsz]; omega)]
    cases r with
    | nil =>
      left
      refine ⟨index_none _ _ h3, ?_⟩
      have : (joinU [x.data.toList]).length = x.size := hx
      rw [hsz]; omega
    | cons y r =>
      right
      rw [joinU_cons _ _ (by simp), index_at _ _ _ h3, hx]
  · apply bytes_ext
    rw [extract_list]
    have e : (⟨T.toArray⟩ : ByteArray).data.toList.drop a = joinU (x.data.toList :: r) := by show T.toArray.toList.drop a = _; rw [List.toList_toArray, hd]
    rw [e, show a + x.size - a = x.data.toList.length by omega]
    exact joinU_take _ _
theorem off_end (us : List (List UInt8)) : (joinU us).length ≤ offU us us.length := by
  have hd := drop_off us us.length (Nat.le_refl _)
  rw [List.drop_length] at hd
  have := congrArg List.length hd
  simp only [List.length_drop, joinU, List.length_nil] at this
  omega
set_option maxRecDepth 100000 in
set_option maxHeartbeats 4000000 in
theorem read_any (ta na : Option Addr) (tc nc : Nat) (ts ns : List ByteArray) (l : List (Int × Int)) (s : ByteArray) (w : World) (h1 : ts.length ≤ 64) (h2 : ns.length ≤ 64) (hF : Fine ts ns) (hr1 : StrRow w ta ts) (hr2 : StrRow w na ns) (hok : ∀ q ∈ l, okN ts ns q = true) (hl : l.length ≤ 1048576) (hsz : s.size ≤ 34603008) (off : Nat → Nat) (h0 : off 0 = 0) (hstep : ∀ i, i < l.length → off (i + 1) = off i + (nameF ts ns (l.getD i (0, 0)).1 (l.getD i (0, 0)).2).1.size + 1)
    (hW : ∀ i, i < l.length → WordAt s (off i) (nameF ts ns (l.getD i (0, 0)).1 (l.getD i (0, 0)).2).1) (hend : s.size ≤ off l.length) :
    Calls Try.prog 7 #[.slice ta ts.length tc, .slice na ns.length nc, .string s] w fun e w' => ∃ a c, e = .returned (.tuple #[.slice a l.length c, .int .i64 0, .int .i64 0]) ∧ SY w' (.slice a l.length c) l ∧ Below w.heap.size w w' := by
  go_enter Try.func7, Try.ntmps7
  go_wp2_with (first
    | (go_at_call 20; refine (byname_any ta na tc nc ts ns w h1 h2 hF hr1 hr2).mono ?_; rintro e w1 ⟨rfl, M1', b1⟩; have M1 : Hid _ := M1'; clear M1'))
  go_loopw [10, 11] (fun v i wr => ∃ k : Nat, k ≤ l.length ∧ i = .int .i64 (off k) ∧ SY wr v (l.take k) ∧ (∀ j, v.ownBlock = some j → w1.heap.size ≤ j) ∧ Below w1.heap.size w1 wr) (fun _ i _ => s.size + 1 - (intOf i).toNat)
  case atStart => exact ⟨0, Nat.zero_le _, by rw [h0]; rfl, SY.nil _, (fun j hj => by simp [Value.ownBlock] at hj), Below.refl _ _⟩
  case round =>
    obtain ⟨k, hk, rfl, hS, hv, hB⟩ := hrel
    by_cases hlt : k < l.length
    · have hWk := hW k hlt
      have hoff : Hid (off (k + 1) = _) := hstep k hlt
      have hmem : l.getD k (0, 0) ∈ l := by simp [List.getD, hlt]
      obtain ⟨hsol', hkn'⟩ := name_known hF (k := (l.getD k (0, 0)).1) (n := (l.getD k (0, 0)).2) (hok _ hmem)
      have htk : Hid (l.take (k + 1) = l.take k ++ [l.getD k (0, 0)]) := by show _ = _; rw [List.take_succ_eq_append_getElem hlt]; simp [List.getD, hlt]
      generalize l.getD k (0, 0) = q0 at *
      obtain ⟨q1, q2⟩ := q0
      simp only at hWk hoff hsol' hkn'
      generalize (nameF ts ns q1 q2).1 = x at *
      obtain ⟨D, ho, hM, _⟩ := M1.out
      have ho2 : wr.ownsMap Try.prog 9 symElem w.heap.size (Maps.size D) D := ownsMap_kept ho (hB.block _ ho.lt)
      have hkn : Hid (known ts ns (s.extract (off k) (off k + x.size)) = some (q1, q2)) := by show _ = _; rw [hWk.cut]; exact hkn'
      have hxs : Hid ((s.extract (off k) (off k + x.size)).size ≤ maxLen) := by show _ ≤ _; rw [hWk.cut]; have := hsol'.1; unfold maxLen; omega
      have hnx : Hid _ := hWk.next
      have hle := hWk.le
      have hla := hWk.lt
      have hfb := hWk.first
      have hfb' : (((s[off k]'hla).toNat : Int) == 32) = false := by rw [PlainAid.get_bt]; simp [hfb]
      have hSA : SY ((wr.alloc (.cells #[.int .i64 q1, .int .i64 q2] 70)).alloc (.cells #[.int .i64 q1, .int .i64 q2] 70)) (.slice none 0 0) [] := SY.nil _
      obtain ⟨va, vc, rfl⟩ := sy_len hS
      have hlk : (l.take k).length = k := by simp; omega
      rw [hlk] at hS hv ⊢
      have HSA : Hid (SY ((wr.alloc (.cells #[.int .i64 q1, .int .i64 q2] 70)).alloc (.cells #[.int .i64 q1, .int .i64 q2] 70)) (.slice va k vc) (l.take k)) := (hS.later (below_alloc _ _)).later (below_alloc _ _)
      have HBA : Hid (Below w1.heap.size w1 ((wr.alloc (.cells #[.int .i64 q1, .int .i64 q2] 70)).alloc (.cells #[.int .i64 q1, .int .i64 q2] 70))) := (hB.alloc hB.size _).alloc (by have := hB.size; simp; omega) _
      have HV : Hid (∀ j, (Value.slice va k vc).ownBlock = some j → w1.heap.size ≤ j) := hv
      have M2 : Hid _ := hM
      have HLT : Hid ((l.take k).length ≤ 2000000) := by show _ ≤ _; simp; omega
      clear hW hstep hWk hsol' hkn' hM hSA
      have hsl : ∀ w : World, (Instr.slice 9 (.string s) (some (.int .i64 (off k))) (some (.int .i64 ((off k : Int) + x.size))) none).run Try.prog w = .ok (.string (s.extract (off k) (off k + x.size))) w := fun w => by
        have := run_slice_string (P := Try.prog) (w := w) 9 s .i64 .i64 (off k) ((off k : Int) + x.size) Try.underlying9 (by omega) (by omega) (by omega)
        rw [this]
        congr 3
      go_wp2_with (first
        | (go_at_call 21; refine (wordend_at s (off k) x.size _ (by omega) hle hnx.out).mono ?_; rintro e w3 ⟨rfl, rfl⟩)
        | (at_lookup; refine wpList_look_some _ rfl _ _ rfl w.heap.size _ D (known ts ns) rfl ho2 M2.out (s.extract (off k) (off k + x.size)) rfl hxs.out q1 q2 hkn.out ?_)
        | (at_builtin; refine wpList_sy_append rfl _ _ rfl (.slice va k vc) (l.take k) rfl HSA.out _ 1 q1 q2 rfl (by simp) (by simp) HLT.out ?_; intro a4 n4 c4 w4 ho4 hg4))
      go_roundw
      case rel =>
        obtain ⟨g1, g2⟩ := grew_below HBA.out HV.out hg4
        refine ⟨k + 1, by omega, ?_, ?_, g2, g1⟩
        · rw [hoff.out]; first | rfl | congr 1
        · rw [htk.out]; exact ho4
      case measure => simp [intOf]; omega
    · obtain rfl : k = l.length := by omega
      rw [List.take_length] at hS
      obtain ⟨va, vc, rfl⟩ := sy_len hS
      go_wp2
      go_returns
      exact ⟨va, vc, rfl, hS, b1.trans (hB.mono b1.size)⟩
end Go.Proofs.Ytfckmbdcfeljiaa
