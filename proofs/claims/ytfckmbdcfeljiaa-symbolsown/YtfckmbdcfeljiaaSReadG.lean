import Derived.Test.YtfckmbdcfeljiaaSKnownG
import Derived.Test.YtfckmbdcfeljiaaSRead
namespace Go.Proofs.Ytfckmbdcfeljiaa
set_option linter.unusedVariables false
open Go.RowKit Go.Maps Go.Shelf
open PlainAid (bt)

/-- The word at the head of a text. -/
def wordU (T : List UInt8) : List UInt8 := T.takeWhile fun c => !(c == 32)
theorem wordU_cons {c : UInt8} {r : List UInt8} (h : ¬ c = 32) : wordU (c :: r) = c :: wordU r := by simp [wordU, h]
theorem wordU_le (T : List UInt8) : (wordU T).length ≤ T.length := (List.takeWhile_sublist _).length_le
theorem wordU_take : ∀ T : List UInt8, T.take (wordU T).length = wordU T
  | [] => rfl
  | c :: r => by
    by_cases h : c = 32
    · subst h; simp [wordU]
    · rw [wordU_cons h]; simp [wordU_take r]
theorem index_word : ∀ T : List UInt8, Lib.indexByte T 32 = -1 ∧ (wordU T).length = T.length ∨ Lib.indexByte T 32 = ((wordU T).length : Int)
  | [] => .inl ⟨rfl, rfl⟩
  | c :: r => by
    by_cases h : c = 32
    · subst h; right; simp [Lib.indexByte, wordU]
    · rw [wordU_cons h]
      rcases index_word r with ⟨h1, h2⟩ | h1
      · left; simp [Lib.indexByte, h, h1, h2]
      · right
        have : ¬ (((wordU r).length : Int) = -1) := by omega
        simp [Lib.indexByte, h, h1, this]
/-- What Read says of a text from a place on. -/
def rd (f : ByteArray → Option (Int × Int)) (T : List UInt8) (pos : Nat) (acc : List (Int × Int)) : List (Int × Int) × Int × Int :=
  match T with
  | [] => (acc, 0, 0)
  | c :: r => if c = 32 then rd f r (pos + 1) acc else match f ⟨(wordU (c :: r)).toArray⟩ with
    | none => ([], 44, (pos : Int))
    | some q => rd f ((c :: r).drop ((wordU (c :: r)).length + 1)) (pos + (wordU (c :: r)).length + 1) (acc ++ [q])
termination_by T.length
decreasing_by
  · simp
  · simp; omega
theorem rd_nil (f : ByteArray → Option (Int × Int)) (pos : Nat) (acc : List (Int × Int)) : rd f [] pos acc = (acc, 0, 0) := by rw [rd]
theorem rd_blank (f : ByteArray → Option (Int × Int)) (r : List UInt8) (pos : Nat) (acc : List (Int × Int)) : rd f (32 :: r) pos acc = rd f r (pos + 1) acc := by rw [rd, if_pos rfl]
theorem rd_none {f : ByteArray → Option (Int × Int)} {c : UInt8} {r : List UInt8} (pos : Nat) (acc : List (Int × Int)) (h : ¬ c = 32) (hf : f ⟨(wordU (c :: r)).toArray⟩ = none) : rd f (c :: r) pos acc = ([], 44, (pos : Int)) := by rw [rd, if_neg h, hf]
theorem rd_some {f : ByteArray → Option (Int × Int)} {c : UInt8} {r : List UInt8} {q : Int × Int} (pos : Nat) (acc : List (Int × Int)) (h : ¬ c = 32) (hf : f ⟨(wordU (c :: r)).toArray⟩ = some q) : rd f (c :: r) pos acc = rd f ((c :: r).drop ((wordU (c :: r)).length + 1)) (pos + (wordU (c :: r)).length + 1) (acc ++ [q]) := by rw [rd, if_neg h, hf]
theorem size_list (s : ByteArray) : s.data.toList.length = s.size := Array.length_toList
/-- A text from a place on. -/
theorem at_place (s : ByteArray) (a : Nat) (h : a < s.size) : ∃ c r, s.data.toList.drop a = c :: r ∧ bt s a = (c.toNat : Int) ∧ r = s.data.toList.drop (a + 1) := by
  have hl : a < s.data.toList.length := by rw [size_list]; exact h
  have e := List.drop_eq_getElem_cons hl
  exact ⟨_, _, e, (bt_list s a _ _ e).2, rfl⟩
set_option maxRecDepth 100000 in
set_option maxHeartbeats 4000000 in
theorem readG_own (ta na : Option Addr) (tc nc : Nat) (ts ns : List ByteArray) (s : ByteArray) (w : World) (h1 : ts.length ≤ 1048576) (h2 : ns.length ≤ 1048576) (hz1 : ∀ s ∈ ts, s.size ≤ maxLen) (hz2 : ∀ s ∈ ns, s.size ≤ maxLen) (hr1 : StrRow w ta ts) (hr2 : StrRow w na ns) (hsz : s.size ≤ 1048576) (L : List (Int × Int)) (er at_ : Int) (hR : rd (known ts ns) s.data.toList 0 [] = (L, er, at_)) :
    Calls Try.prog 7 #[.slice ta ts.length tc, .slice na ns.length nc, .string s] w fun e w' => ∃ a c, e = .returned (.tuple #[.slice a L.length c, .int .i64 er, .int .i64 at_]) ∧ SY w' (.slice a L.length c) L ∧ Below w.heap.size w w' ∧ (∀ k, (Value.slice a L.length c).ownBlock = some k → w.heap.size ≤ k) ∧ L.length ≤ s.size + 1 := by
  go_enter Try.func7, Try.ntmps7
  go_wp2_with (first
    | (go_at_call 20; refine (bynameG_any ta na tc nc ts ns w h1 h2 hz1 hz2 hr1 hr2).mono ?_; rintro e w1 ⟨rfl, M1', b1⟩; have M1 : Hid _ := M1'; clear M1'))
  go_loopw [10, 11] (fun v i wr => ∃ (k : Nat) (l : List (Int × Int)), k ≤ s.size + 1 ∧ i = .int .i64 k ∧ l.length ≤ k ∧ SY wr v l ∧ (∀ j, v.ownBlock = some j → w1.heap.size ≤ j) ∧ Below w1.heap.size w1 wr ∧ rd (known ts ns) (s.data.toList.drop k) k l = (L, er, at_)) (fun _ i _ => s.size + 1 - (intOf i).toNat)
  case atStart => exact ⟨0, [], Nat.zero_le _, rfl, Nat.le_refl _, SY.nil _, (fun j hj => by simp [Value.ownBlock] at hj), Below.refl _ _, hR⟩
  case round =>
    clear hR
    obtain ⟨k, l, hk, rfl, hll, hS, hv, hB, hrd'⟩ := hrel
    have hrd : Hid _ := hrd'
    clear hrd'
    obtain ⟨va, vc, rfl⟩ := sy_len hS
    by_cases hlt : k < s.size
    · obtain ⟨c, r, hd', hbt, hr'⟩ := at_place s k hlt
      have hd : Hid _ := hd'
      have hrr : Hid _ := hr'
      clear hd' hr'
      by_cases hc : c = 32
      · subst hc
        have hfb' : (((s[k]'hlt).toNat : Int) == 32) = true := by rw [PlainAid.get_bt, hbt]; rfl
        clear hbt
        go_wp2
        go_roundw
        case rel =>
          refine ⟨k + 1, l, by omega, by go_num, by omega, hS, hv, hB, ?_⟩
          have := hrd.out
          rw [hd.out, rd_blank] at this
          rw [← hrr.out]
          exact this
        case measure => simp [intOf]; omega
      · have hfb' : (((s[k]'hlt).toNat : Int) == 32) = false := by
          rw [PlainAid.get_bt, hbt]
          simp only [beq_eq_false_iff_ne, ne_eq]
          intro e
          exact hc (UInt8.toNat_inj.1 (by show c.toNat = 32; omega))
        have hwl := wordU_le (c :: r)
        have hlen : (c :: r).length = s.size - k := by rw [← hd.out, List.length_drop, size_list]
        have hw1 : 1 ≤ (wordU (c :: r)).length := by rw [wordU_cons hc]; simp
        have hex : s.extract k s.size = ⟨(c :: r).toArray⟩ := by
          apply bytes_ext
          rw [extract_list, hd.out, List.take_of_length_le (by omega)]
        have hnx : Hid (Lib.indexByte (s.extract k s.size).data.toList 32 = -1 ∧ s.size = k + (wordU (c :: r)).length ∨ Lib.indexByte (s.extract k s.size).data.toList 32 = ((wordU (c :: r)).length : Int)) := by
          show _ ∨ _
          rw [hex]
          show Lib.indexByte (c :: r).toArray.toList 32 = -1 ∧ _ ∨ Lib.indexByte (c :: r).toArray.toList 32 = _
          rw [List.toList_toArray]
          rcases index_word (c :: r) with ⟨q1, q2⟩ | q1
          · exact .inl ⟨q1, by omega⟩
          · exact .inr q1
        have hcut : s.extract k (k + (wordU (c :: r)).length) = ⟨(wordU (c :: r)).toArray⟩ := by
          apply bytes_ext
          rw [extract_list, hd.out, show k + (wordU (c :: r)).length - k = (wordU (c :: r)).length by omega, wordU_take]
        have hdr : Hid ((c :: r).drop ((wordU (c :: r)).length + 1) = s.data.toList.drop (k + (wordU (c :: r)).length + 1)) := by show _ = _; rw [← hd.out, List.drop_drop]; congr 1
        obtain ⟨D, ho, hM, _⟩ := M1.out
        have ho2 : wr.ownsMap Try.prog 9 symElem w.heap.size (Maps.size D) D := ownsMap_kept ho (hB.block _ ho.lt)
        have M2 : Hid _ := hM
        have hc' : Hid (¬ c = 32) := hc
        have RN : Hid (known ts ns ⟨(wordU (c :: r)).toArray⟩ = none → (L, er, at_) = ([], (44 : Int), (k : Int))) := fun hf => by rw [← hrd.out, hd.out]; exact rd_none k l hc'.out hf
        have RS : Hid (∀ q, known ts ns ⟨(wordU (c :: r)).toArray⟩ = some q → rd (known ts ns) (s.data.toList.drop (k + (wordU (c :: r)).length + 1)) (k + (wordU (c :: r)).length + 1) (l ++ [q]) = (L, er, at_)) := fun q hf => by rw [← hrd.out, hd.out, rd_some k l hc'.out hf, hdr.out]
        have hxs : Hid ((s.extract k (k + (wordU (c :: r)).length)).size ≤ maxLen) := by show _ ≤ _; rw [hcut]; show (wordU (c :: r)).toArray.size ≤ _; simp; unfold maxLen; omega
        rw [← hcut] at RN RS
        have hle : k + (wordU (c :: r)).length ≤ s.size := by omega
        clear hd hrr hbt hex hcut hdr hrd hM hwl hc hc'
        generalize (wordU (c :: r)).length = m at *
        clear hlen
        have hsl : ∀ w : World, (Instr.slice 9 (.string s) (some (.int .i64 k)) (some (.int .i64 ((k : Int) + m))) none).run Try.prog w = .ok (.string (s.extract k (k + m))) w := fun w => by
          have := run_slice_string (P := Try.prog) (w := w) 9 s .i64 .i64 k ((k : Int) + m) Try.underlying9 (by omega) (by omega) (by omega)
          rw [this]
          congr 3
        cases hkn' : known ts ns (s.extract k (k + m)) with
        | none =>
          have hkn : Hid _ := hkn'
          have hfin : Hid _ := RN.out hkn'
          clear hkn' RN RS
          go_wp2_with (first
            | (go_at_call 21; refine (wordend_at s k m _ (by omega) hle hnx.out).mono ?_; rintro e w3 ⟨rfl, rfl⟩)
            | (at_lookup; refine wpList_look_none _ rfl _ _ rfl w.heap.size _ D (known ts ns) rfl ho2 M2.out (s.extract k (k + m)) rfl hxs.out hkn.out ?_))
          go_returns
          have hfin' := hfin.out
          simp only [Prod.mk.injEq] at hfin'
          obtain ⟨rfl, rfl, rfl⟩ := hfin'
          exact ⟨none, 0, rfl, SY.nil _, b1.trans ((hB.alloc hB.size _).mono b1.size), (fun k hk => by simp [Value.ownBlock] at hk), Nat.zero_le _⟩
        | some q =>
          obtain ⟨q1, q2⟩ := q
          have hkn : Hid _ := hkn'
          have hfin : Hid _ := RS.out (q1, q2) hkn'
          have HSA : Hid (SY ((wr.alloc (.cells #[.int .i64 q1, .int .i64 q2] 70)).alloc (.cells #[.int .i64 q1, .int .i64 q2] 70)) (.slice va l.length vc) l) := (hS.later (below_alloc _ _)).later (below_alloc _ _)
          have HBA : Hid (Below w1.heap.size w1 ((wr.alloc (.cells #[.int .i64 q1, .int .i64 q2] 70)).alloc (.cells #[.int .i64 q1, .int .i64 q2] 70))) := (hB.alloc hB.size _).alloc (by have := hB.size; simp; omega) _
          have HV : Hid (∀ j, (Value.slice va l.length vc).ownBlock = some j → w1.heap.size ≤ j) := hv
          have HLT : Hid (l.length ≤ 2000000) := by show _ ≤ _; omega
          clear hkn' RN RS
          go_wp2_with (first
            | (go_at_call 21; refine (wordend_at s k m _ (by omega) hle hnx.out).mono ?_; rintro e w3 ⟨rfl, rfl⟩)
            | (at_lookup; refine wpList_look_some _ rfl _ _ rfl w.heap.size _ D (known ts ns) rfl ho2 M2.out (s.extract k (k + m)) rfl hxs.out q1 q2 hkn.out ?_)
            | (at_builtin; refine wpList_sy_append rfl _ _ rfl (.slice va l.length vc) l rfl HSA.out _ 1 q1 q2 rfl (by simp) (by simp) HLT.out ?_; intro a4 n4 c4 w4 ho4 hg4))
          go_roundw
          case rel =>
            obtain ⟨g1, g2⟩ := grew_below HBA.out HV.out hg4
            exact ⟨k + m + 1, l ++ [(q1, q2)], by omega, by go_num, by simp; omega, ho4, g2, g1, hfin.out⟩
          case measure => simp [intOf]; omega
    · have hnil : s.data.toList.drop k = [] := List.drop_eq_nil_of_le (by rw [size_list]; omega)
      have hfin := hrd.out
      rw [hnil, rd_nil] at hfin
      simp only [Prod.mk.injEq] at hfin
      obtain ⟨rfl, rfl, rfl⟩ := hfin
      clear hrd hnil
      go_wp2
      go_returns
      exact ⟨va, vc, rfl, hS, b1.trans (hB.mono b1.size), fun j hj => Nat.le_trans b1.size (hv j hj), by omega⟩
theorem readG_any (ta na : Option Addr) (tc nc : Nat) (ts ns : List ByteArray) (s : ByteArray) (w : World) (h1 : ts.length ≤ 1048576) (h2 : ns.length ≤ 1048576) (hz1 : ∀ s ∈ ts, s.size ≤ maxLen) (hz2 : ∀ s ∈ ns, s.size ≤ maxLen) (hr1 : StrRow w ta ts) (hr2 : StrRow w na ns) (hsz : s.size ≤ 1048576) (L : List (Int × Int)) (er at_ : Int) (hR : rd (known ts ns) s.data.toList 0 [] = (L, er, at_)) :
    Calls Try.prog 7 #[.slice ta ts.length tc, .slice na ns.length nc, .string s] w fun e w' => ∃ a c, e = .returned (.tuple #[.slice a L.length c, .int .i64 er, .int .i64 at_]) ∧ SY w' (.slice a L.length c) L ∧ Below w.heap.size w w' :=
  (readG_own ta na tc nc ts ns s w h1 h2 hz1 hz2 hr1 hr2 hsz L er at_ hR).mono fun e w' ⟨a, c, he, h, hb, _⟩ => ⟨a, c, he, h, hb⟩
end Go.Proofs.Ytfckmbdcfeljiaa
