import Derived.Test.YtndjcbcdjcnniaaSReadG
namespace Go.Proofs.Ytndjcbcdjcnniaa
set_option linter.unusedVariables false
open Go.RowKit Go.Maps Go.Shelf
open PlainAid (bt)

theorem word_upto : ∀ (T : List UInt8) (m : Nat), m ≤ T.length → (∀ k, k < m → T[k]? ≠ some 32) → (m = T.length ∨ T[m]? = some 32) → wordU T = T.take m
  | T, 0, _, _, h => by
    rcases h with h | h
    · have : T = [] := List.eq_nil_of_length_eq_zero h.symm
      subst this; rfl
    · cases T with
      | nil => simp at h
      | cons c r => simp at h; subst h; simp [wordU]
  | [], m + 1, hm, _, _ => by simp at hm
  | c :: r, m + 1, hm, hk, h => by
    have hc : ¬ c = 32 := fun e => hk 0 (by omega) (by simp [e])
    have h' : m = r.length ∨ r[m]? = some 32 := by
      rcases h with h | h
      · left; simpa using h
      · right; simpa using h
    rw [wordU_cons hc, List.take_succ_cons, word_upto r m (by simpa using hm) (fun k hk' => by have := hk (k + 1) (by omega); simpa using this) h']
theorem bt_get {s : ByteArray} {k : Nat} (h : k < s.size) : s.data.toList[k]? = some 32 ↔ bt s k = 32 := by
  obtain ⟨c, r, e, hb, _⟩ := at_place s k h
  have hk : s.data.toList[k]? = some c := by rw [← List.head?_drop, e]; rfl
  rw [hk, hb]
  constructor
  · intro q; simp at q; subst q; rfl
  · intro q
    have : c = 32 := UInt8.toNat_inj.1 (by show c.toNat = 32; omega)
    rw [this]
theorem known_is (ts ns : List ByteArray) (x : ByteArray) : known ts ns x = if x = dollar then some ((1 : Int), (ts.length : Int)) else match placeS ts x with
    | some j => some ((1 : Int), (j : Int))
    | none => match placeS ns x with
      | some j => some ((2 : Int), (j : Int))
      | none => none := by
  unfold known upd kT kN
  split
  · rfl
  · cases placeS ts x with
    | some j => simp
    | none => cases placeS ns x <;> simp
set_option maxRecDepth 100000 in
set_option maxHeartbeats 4000000 in
theorem readR_any (ta na : Option Addr) (tc nc : Nat) (ts ns : List ByteArray) (s : ByteArray) (w : World) (h1 : ts.length ≤ 1048576) (h2 : ns.length ≤ 1048576) (hr1 : StrRow w ta ts) (hr2 : StrRow w na ns) (hsz : s.size ≤ 1048576) (L : List (Int × Int)) (er at_ : Int) (hR : rd (known ts ns) s.data.toList 0 [] = (L, er, at_)) :
    Calls Try.prog 18 #[.slice ta ts.length tc, .slice na ns.length nc, .string s] w fun e w' => ∃ a c, e = .returned (.tuple #[.slice a L.length c, .int .i64 er, .int .i64 at_]) ∧ SY w' (.slice a L.length c) L ∧ Below w.heap.size w w' := by
  have HI : Hid (∀ w', Below w.heap.size w w' → ∀ x : ByteArray, Calls Try.prog 41 #[.slice ta ts.length tc, .string x] w' fun e w'' => e = .returned (.int .i64 (inS ts x)) ∧ w' = w'') := fun w' hb x => in_any ta _ tc ts x w' rfl (by omega) (hr1.later hb)
  have HJ : Hid (∀ w', Below w.heap.size w w' → ∀ x : ByteArray, Calls Try.prog 41 #[.slice na ns.length nc, .string x] w' fun e w'' => e = .returned (.int .i64 (inS ns x)) ∧ w' = w'') := fun w' hb x => in_any na _ nc ns x w' rfl (by omega) (hr2.later hb)
  clear hr1 hr2
  go_enter Try.func18, Try.ntmps18
  go_wp2
  go_loopw [9, 10, 11] (fun v av iv wr => ∃ (a i : Nat) (l : List (Int × Int)), i ≤ s.size + 1 ∧ a ≤ i ∧ (∀ k, a ≤ k → k < i → k < s.size ∧ bt s k ≠ 32) ∧ av = .int .i64 a ∧ iv = .int .i64 i ∧ l.length ≤ a ∧ SY wr v l ∧ (∀ j, v.ownBlock = some j → w.heap.size ≤ j) ∧ Below w.heap.size w wr ∧ rd (known ts ns) (s.data.toList.drop a) a l = (L, er, at_)) (fun _ _ i _ => s.size + 1 - (intOf i).toNat)
  case atStart => exact ⟨0, 0, [], by omega, by omega, (fun k _ hk => by omega), rfl, rfl, Nat.le_refl _, SY.nil _, (fun j hj => by simp [Value.ownBlock] at hj), Below.refl _ _, hR⟩
  case round =>
    clear hR
    obtain ⟨a, i, l, hi, hai, hno', rfl, rfl, hll, hS, hv, hB, hrd'⟩ := hrel
    have hrd : Hid _ := hrd'
    have hno : Hid _ := hno'
    clear hrd' hno'
    obtain ⟨va, vc, rfl⟩ := sy_len hS
    by_cases hle : i ≤ s.size
    · by_cases hlt : i < s.size ∧ bt s i ≠ 32
      · obtain ⟨hlt, hne⟩ := hlt
        have hfb' : (((s[i]'hlt).toNat : Int) != 32) = true := by rw [PlainAid.get_bt]; simpa using hne
        go_wp2
        go_roundw
        case rel =>
          refine ⟨a, i + 1, l, by omega, by omega, fun k h1 h2 => ?_, rfl, by go_num, hll, hS, hv, hB, hrd.out⟩
          by_cases e : k = i
          · subst e; exact ⟨hlt, hne⟩
          · exact hno.out k h1 (by omega)
        case measure => simp [intOf]; omega
      · have hend : i = s.size ∨ (i < s.size ∧ bt s i = 32) := by
          by_cases q : i < s.size
          · right; exact ⟨q, Classical.not_not.1 fun e => hlt ⟨q, e⟩⟩
          · left; omega
        have hsl : ∀ w : World, (Instr.slice 9 (.string s) (some (.int .i64 a)) (some (.int .i64 i)) none).run Try.prog w = .ok (.string (s.extract a i)) w := fun w => by
          have := run_slice_string (P := Try.prog) (w := w) 9 s .i64 .i64 a i Try.underlying9 (by omega) (by omega) (by omega)
          rw [this]
          rfl
        have hcond : (i < s.size ∧ ∃ h : i < s.size, (((s[i]'h).toNat : Int) != 32) = false) ∨ ¬ i < s.size := by
          rcases hend with e | ⟨e1, e2⟩
          · right; omega
          · left; exact ⟨e1, e1, by rw [PlainAid.get_bt, e2]; rfl⟩
        have Hend : Hid _ := hend
        clear hlt hend
        have HBW : Hid (∀ w', Below wr.heap.size wr w' → Below w.heap.size w w') := fun w' hb => hB.trans (hb.mono hB.size)
        by_cases hemp : a = i
        · subst hemp
          have hxe : (s.extract a a).toList.isEmpty = true := by rw [ByteArray.toList_eq, extract_list]; simp
          have hfin : Hid (rd (known ts ns) (s.data.toList.drop (a + 1)) (a + 1) l = (L, er, at_)) := by
            show _ = _
            rw [← hrd.out]
            rcases Hend.out with e | ⟨e1, e2⟩
            · rw [List.drop_eq_nil_of_le (by rw [size_list]; omega), List.drop_eq_nil_of_le (by rw [size_list]; omega), rd_nil, rd_nil]
            · obtain ⟨c, r, q1, q2, q3⟩ := at_place s a e1
              have : c = 32 := UInt8.toNat_inj.1 (by show c.toNat = 32; omega)
              subst this
              rw [q1, rd_blank, q3]
          rcases hcond with ⟨_, hil, hfb'⟩ | hil
          all_goals
            go_wp2
            go_roundw
            case rel => exact ⟨a + 1, a + 1, l, by omega, by omega, (fun k _ _ => by omega), by go_num, by go_num, by omega, hS, hv, hB, hfin.out⟩
            case measure => simp [intOf]; omega
        · obtain ⟨hals, hane⟩ := hno.out a (Nat.le_refl _) (by omega)
          obtain ⟨c, r, hd, hbt, _⟩ := at_place s a hals
          have hc : ¬ c = 32 := fun e => hane (by rw [hbt, e]; rfl)
          have hlen : (c :: r).length = s.size - a := by rw [← hd, List.length_drop, size_list]
          have hword : wordU (c :: r) = (c :: r).take (i - a) := by
            refine word_upto _ _ (by omega) (fun k hk => ?_) ?_
            · obtain ⟨z1, z2⟩ := hno.out (a + k) (by omega) (by omega)
              rw [← hd, List.getElem?_drop]
              exact fun q => z2 ((bt_get z1).1 q)
            · rcases Hend.out with e | ⟨e1, e2⟩
              · left; omega
              · right; rw [← hd, List.getElem?_drop, show a + (i - a) = i by omega]; exact (bt_get e1).2 e2
          have hcut : s.extract a i = ⟨(wordU (c :: r)).toArray⟩ := by
            apply bytes_ext
            rw [extract_list, hd, hword]
          have hwl : (wordU (c :: r)).length = i - a := by rw [hword, List.length_take]; omega
          have hdr : (c :: r).drop ((wordU (c :: r)).length + 1) = s.data.toList.drop (i + 1) := by rw [hwl, ← hd, List.drop_drop]; congr 1; omega
          have RN : Hid (known ts ns (s.extract a i) = none → (L, er, at_) = ([], (44 : Int), (a : Int))) := fun hf => by rw [hcut] at hf; rw [← hrd.out, hd]; exact rd_none a l hc hf
          have RS : Hid (∀ q, known ts ns (s.extract a i) = some q → rd (known ts ns) (s.data.toList.drop (i + 1)) (i + 1) (l ++ [q]) = (L, er, at_)) := fun q hf => by rw [hcut] at hf; rw [← hrd.out, hd, rd_some a l hc hf, hdr, hwl, show a + (i - a) + 1 = i + 1 by omega]
          have hxe : (s.extract a i).toList.isEmpty = false := by rw [ByteArray.toList_eq, hcut]; show (wordU (c :: r)).toArray.toList.isEmpty = false; rw [List.toList_toArray, wordU_cons hc]; rfl
          have HBA : ∀ q1 q2, Hid (Below w.heap.size w (wr.alloc (.cells #[.int .i64 q1, .int .i64 q2] 61))) := fun q1 q2 => hB.alloc hB.size _
          have HSA : ∀ q1 q2, Hid (SY (wr.alloc (.cells #[.int .i64 q1, .int .i64 q2] 61)) (.slice va l.length vc) l) := fun q1 q2 => hS.later (below_alloc _ _)
          have HV : Hid (∀ j, (Value.slice va l.length vc).ownBlock = some j → w.heap.size ≤ j) := hv
          have HLT : Hid (l.length ≤ 2000000) := by show _ ≤ _; omega
          have hdol : (s.extract a i = dollar) ↔ ((s.extract a i).toList == [36]) = true := by
            rw [ByteArray.toList_eq]
            simp only [beq_iff_eq]
            exact ⟨fun e => by rw [e]; rfl, fun e => bytes_ext e⟩
          have KI := known_is ts ns (s.extract a i)
          clear hd hbt hc hlen hword hcut hwl hdr hals hane hrd
          generalize hxx : s.extract a i = x at *
          have HIx : Hid (∀ w', Below w.heap.size w w' → Calls Try.prog 41 #[.slice ta ts.length tc, .string x] w' fun e w'' => e = .returned (.int .i64 (inS ts x)) ∧ w' = w'') := fun w' hb => HI.out w' hb x
          have HJx : Hid (∀ w', Below w.heap.size w w' → Calls Try.prog 41 #[.slice na ns.length nc, .string x] w' fun e w'' => e = .returned (.int .i64 (inS ns x)) ∧ w' = w'') := fun w' hb => HJ.out w' hb x
          obtain ⟨tv, htv⟩ : ∃ tv, inS ts x = tv := ⟨_, rfl⟩
          obtain ⟨nv, hnv⟩ : ∃ nv, inS ns x = nv := ⟨_, rfl⟩
          rw [htv] at HIx
          rw [hnv] at HJx
          have cls : (((x.toList == [36]) = true) ∧ known ts ns x = some (1, (ts.length : Int))) ∨ (((x.toList == [36]) = false) ∧ 0 ≤ tv ∧ known ts ns x = some (1, tv)) ∨ (((x.toList == [36]) = false) ∧ ¬ 0 ≤ tv ∧ 0 ≤ nv ∧ known ts ns x = some (2, nv)) ∨ (((x.toList == [36]) = false) ∧ ¬ 0 ≤ tv ∧ ¬ 0 ≤ nv ∧ known ts ns x = none) := by
            by_cases hd : x = dollar
            · left; exact ⟨hdol.1 hd, by rw [KI, if_pos hd]⟩
            · right
              have hd' : (x.toList == [36]) = false := by cases q : (x.toList == [36]) with
                | false => rfl
                | true => exact absurd (hdol.2 q) hd
              rw [if_neg hd] at KI
              unfold inS at htv hnv
              cases p1 : placeS ts x with
              | some j => rw [p1] at KI htv; simp only at KI htv; left; exact ⟨hd', by omega, by rw [KI, htv]⟩
              | none =>
                rw [p1] at KI htv
                simp only at KI htv
                right
                cases p2 : placeS ns x with
                | some j => rw [p2] at KI hnv; simp only at KI hnv; left; exact ⟨hd', by omega, by omega, by rw [KI, hnv]⟩
                | none => rw [p2] at KI hnv; simp only at KI hnv; right; exact ⟨hd', by omega, by omega, KI⟩
          have hb1 : -1 ≤ tv ∧ tv ≤ 9223372036854775807 := by
            unfold inS at htv
            cases p1 : placeS ts x with
            | some j => have := (placeS_spec p1).1; rw [p1] at htv; simp only at htv; omega
            | none => rw [p1] at htv; simp only at htv; omega
          have hb2 : -1 ≤ nv ∧ nv ≤ 9223372036854775807 := by
            unfold inS at hnv
            cases p1 : placeS ns x with
            | some j => have := (placeS_spec p1).1; rw [p1] at hnv; simp only at hnv; omega
            | none => rw [p1] at hnv; simp only at hnv; omega
          clear KI hdol htv hnv HI HJ hxx hno Hend
          rcases cls with ⟨e1, e2⟩ | ⟨e1, e3, e2⟩ | ⟨e1, e3, e4, e2⟩ | ⟨e1, e3, e4, e2⟩
          · have hfin : Hid _ := RS.out _ e2
            have HBA1 := HBA (1) (ts.length)
            have HSA1 := HSA (1) (ts.length)
            clear RS RN e2 HBA HSA
            rcases hcond with ⟨_, hil, hfb'⟩ | hil
            all_goals
              go_wp2_with (first
                | (go_at_call 41; (with_reducible refine (HIx.out _ hB).mono ?_); rintro e w3 ⟨rfl, rfl⟩)
                | (go_at_call 41; (with_reducible refine (HJx.out _ hB).mono ?_); rintro e w3 ⟨rfl, rfl⟩)
                | (at_builtin; refine wpList_sy_append rfl _ _ rfl (.slice va l.length vc) l rfl HSA1.out _ 1 (1) (ts.length) rfl (by simp) (by simp) HLT.out ?_; intro a4 n4 c4 w4 ho4 hg4))
              go_roundw
              case rel =>
                obtain ⟨g1, g2⟩ := grew_below HBA1.out HV.out hg4
                exact ⟨i + 1, i + 1, l ++ [((1 : Int), (ts.length : Int))], by omega, by omega, (fun k _ _ => by omega), by go_num, by go_num, by simp; omega, ho4, g2, g1, hfin.out⟩
              case measure => simp [intOf]; omega
          · have hfin : Hid _ := RS.out _ e2
            have HBA1 := HBA (1) (tv)
            have HSA1 := HSA (1) (tv)
            clear RS RN e2 HBA HSA
            rcases hcond with ⟨_, hil, hfb'⟩ | hil
            all_goals
              go_wp2_with (first
                | (go_at_call 41; (with_reducible refine (HIx.out _ hB).mono ?_); rintro e w3 ⟨rfl, rfl⟩)
                | (go_at_call 41; (with_reducible refine (HJx.out _ hB).mono ?_); rintro e w3 ⟨rfl, rfl⟩)
                | (at_builtin; refine wpList_sy_append rfl _ _ rfl (.slice va l.length vc) l rfl HSA1.out _ 1 (1) (tv) rfl (by simp) (by simp) HLT.out ?_; intro a4 n4 c4 w4 ho4 hg4))
              go_roundw
              case rel =>
                obtain ⟨g1, g2⟩ := grew_below HBA1.out HV.out hg4
                exact ⟨i + 1, i + 1, l ++ [(1, tv)], by omega, by omega, (fun k _ _ => by omega), by go_num, by go_num, by simp; omega, ho4, g2, g1, hfin.out⟩
              case measure => simp [intOf]; omega
          · have hfin : Hid _ := RS.out _ e2
            have HBA1 := HBA (2) (nv)
            have HSA1 := HSA (2) (nv)
            clear RS RN e2 HBA HSA
            rcases hcond with ⟨_, hil, hfb'⟩ | hil
            all_goals
              go_wp2_with (first
                | (go_at_call 41; (with_reducible refine (HIx.out _ hB).mono ?_); rintro e w3 ⟨rfl, rfl⟩)
                | (go_at_call 41; (with_reducible refine (HJx.out _ hB).mono ?_); rintro e w3 ⟨rfl, rfl⟩)
                | (at_builtin; refine wpList_sy_append rfl _ _ rfl (.slice va l.length vc) l rfl HSA1.out _ 1 (2) (nv) rfl (by simp) (by simp) HLT.out ?_; intro a4 n4 c4 w4 ho4 hg4))
              go_roundw
              case rel =>
                obtain ⟨g1, g2⟩ := grew_below HBA1.out HV.out hg4
                exact ⟨i + 1, i + 1, l ++ [(2, nv)], by omega, by omega, (fun k _ _ => by omega), by go_num, by go_num, by simp; omega, ho4, g2, g1, hfin.out⟩
              case measure => simp [intOf]; omega
          · have hfin : Hid _ := RN.out e2
            clear RS RN e2 HBA HSA
            rcases hcond with ⟨_, hil, hfb'⟩ | hil
            all_goals
              go_wp2_with (first
                | (go_at_call 41; (with_reducible refine (HIx.out _ hB).mono ?_); rintro e w3 ⟨rfl, rfl⟩)
                | (go_at_call 41; (with_reducible refine (HJx.out _ hB).mono ?_); rintro e w3 ⟨rfl, rfl⟩))
              go_returns
              have hfin' := hfin.out
              simp only [Prod.mk.injEq] at hfin'
              obtain ⟨rfl, rfl, rfl⟩ := hfin'
              exact ⟨none, 0, rfl, SY.nil _, hB⟩
    · have ha : s.size < a := by
        rcases Nat.lt_or_ge s.size a with h | h
        · exact h
        · have := (hno.out s.size h (by omega)).1; omega
      have hfin := hrd.out
      rw [List.drop_eq_nil_of_le (by rw [size_list]; omega), rd_nil] at hfin
      simp only [Prod.mk.injEq] at hfin
      obtain ⟨rfl, rfl, rfl⟩ := hfin
      clear hrd hno HI HJ
      go_wp2
      go_returns
      exact ⟨va, vc, rfl, hS, hB⟩
end Go.Proofs.Ytndjcbcdjcnniaa
