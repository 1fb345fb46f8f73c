import Derived.Test.YtchocojmideleaaGreatDoorBBaseToGRow
import Derived.Test.YtchocojmideleaaGreatDoorSWordToSWord3
namespace Go.Proofs.YtchocojmideleaaGreatDoor
set_option linter.unusedVariables false
open Go.RowKit Go.Maps

def inB (seen : List ByteArray) (s : ByteArray) : Bool := seen.any fun t => decide (t = s)
theorem inB_snoc (seen : List ByteArray) (s t : ByteArray) : inB (seen ++ [s]) t = (inB seen t || decide (s = t)) := by simp [inB]
/-- A set of names. -/
structure USet (D : DataW Unit) (seen : List ByteArray) : Prop where
  tidy : Tidy D
  has_ : ∀ s, Maps.has D (keyL s) = inB seen s
  size : Maps.size D = seen.length
theorem USet.empty : USet (.map []) [] := ⟨tidy_empty, fun _ => rfl, rfl⟩
theorem USet.put {D : DataW Unit} {seen : List ByteArray} (h : USet D seen) {s : ByteArray} (hs : inB seen s = false) : USet (D.put (keyL s) (.agg [])) (seen ++ [s]) := by
  refine ⟨h.tidy.put (keyL_is s) _, fun t => ?_, ?_⟩
  · by_cases e : t = s
    · subst e; rw [has_put_same h.tidy.isMap (keyL_is t), inB_snoc]; simp
    · rw [has_put_other (fun q => e (keyL_inj q)), h.has_ t, inB_snoc]; simp [Ne.symm e]
  · rw [size_put h.tidy, h.has_ s, h.size]; simp [hs]
/-- The names of one kind, behind those that were seen: the error, its place, those seen. -/
def formsF (form : ByteArray → Bool) : List ByteArray → List ByteArray → Int × Int × List ByteArray
  | [], seen => (0, 0, seen)
  | s :: r, seen => if form s = false then (21, seen.length, seen) else if inB seen s = true then (6, seen.length, seen) else formsF form r (seen ++ [s])
theorem zeroUnit (w : World) : (zeroValue 161).run Tryz.prog w = .ok (.agg #[]) w := by kernel_rfl
/-- What checkForms leaves. -/
structure FOut (w w' : World) (b : Nat) (r : Int × Int × List ByteArray) (e : Ending) (D' : DataW Unit) : Prop where
  ret : e = .returned (.tuple #[.int .i64 r.1, .int .i64 r.2.1])
  own : w'.ownsMap Tryz.prog 9 unitElem b (Maps.size D') D'
  set_ : USet D' r.2.2
  grown : w.grownBy w' (some b)
theorem grow_alloc {w w1 : World} {r : Option Nat} (h : w.grownBy w1 r) (o : Obj) : w.grownBy (w1.alloc o) r := h.trans (World.grownBy_alloc w1 o r)
set_option maxRecDepth 100000 in
set_option maxHeartbeats 2000000 in
theorem forms_word (ao : Option Addr) (cap b : Nat) (ss seen : List ByteArray) (D : DataW Unit) (w : World) (hl : ss.length ≤ 64) (hsz : ∀ s ∈ ss, s.size ≤ maxLen) (hn : seen.length ≤ 1000) (hr : StrRow w ao ss)
    (hown : w.ownsMap Tryz.prog 9 unitElem b (Maps.size D) D) (hU : USet D seen) :
    Calls Tryz.prog 160 #[.slice ao ss.length cap, .func (.func 162) #[] #[], .map (some b)] w fun e w' => ∃ D', FOut w w' b (formsF wordS ss seen) e D' := by
  go_enter Tryz.func160, Tryz.ntmps160
  go_wp2
  go_loopw [15] (fun i wr => ∃ (k : Nat) (D' : DataW Unit) (sn : List ByteArray), k ≤ ss.length ∧ i = .int .i64 k ∧ wr.ownsMap Tryz.prog 9 unitElem b (Maps.size D') D' ∧ Hid (USet D' sn) ∧ w.grownBy wr (some b) ∧ Hid (formsF wordS (ss.drop k) sn = formsF wordS ss seen) ∧ Hid (sn.length = seen.length + k)) (fun i _ => ss.length - (intOf i).toNat)
  case atStart => exact ⟨0, D, seen, Nat.zero_le _, rfl, hown, hU, ⟨rfl, rfl, rfl, Nat.le_refl _, fun _ _ _ => rfl⟩, rfl, rfl⟩
  case round =>
    obtain ⟨k, D', sn, hk, rfl, hown1, hU1, hG, HF, HN⟩ := hrel
    by_cases hlt : k < ss.length
    · obtain ⟨q, off, rfl, hq, hc⟩ := hr (by intro h; subst h; simp at hlt)
      have hqb : q ≠ b := by
        intro e
        obtain ⟨es, cl, hbm, _⟩ := hown
        have := hc k hlt
        subst e
        simp [World.cell?, hbm] at this
      have h1 : wr.cell? ⟨q, off + k, none⟩ = some (.string (ss.getD k ByteArray.empty)) := by
        rw [← hc k hlt]
        simp [World.cell?, hG.block q hq (by simpa using hqb)]
      have hs1 : (ss.getD k ByteArray.empty).size ≤ maxLen := hsz _ (by simp [List.getD, hlt])
      have HD : Hid (ss.drop k = ss.getD k ByteArray.empty :: ss.drop (k + 1)) := by
        unfold Hid
        rw [List.drop_eq_getElem_cons hlt]
        simp [List.getD, hlt]
      clear hc hr
      generalize ss.getD k ByteArray.empty = s at *
      have hs2 : s.size ≤ 9223372036854775807 := by unfold maxLen at hs1; omega
      have klt : (k : Int) < (ss.length : Int) := by omega
      have HS : Hid (Maps.size D' = sn.length) := hU1.out.size
      have hml : Maps.size D' < maxLen := by have e1 := HS.out; have e2 := HN.out; unfold maxLen; omega
      by_cases hf : wordS s = true
      · by_cases hin : inB sn s = true
        · have HE : Hid (formsF wordS ss seen = ((6 : Int), (sn.length : Int), sn)) := by
            unfold Hid
            rw [← HF.out, HD.out]
            simp [formsF, hf, hin]
          have hh : Maps.has D' (keyL s) = true := (hU1.out.has_ s).trans hin
          go_wp2_with (first | (at_len; refine wpList_len_own _ rfl _ 228 rfl 9 161 Tryz.underlying228 unitElem b _ D' rfl hown1 ?_) | (go_at_call 162; refine (isword_any s _ hs2).mono ?_; rintro e w' ⟨rfl, rfl⟩) | (at_lookup; refine wpList_lookup_own_unit _ rfl _ _ 228 rfl 9 161 law Tryz.underlying228 (zeroUnit _) b _ D' rfl hown1 _ _ rfl (keyOf_name hs1) ?_) | (at_mapUpdate; refine wpList_mapUpdate_in _ rfl _ _ _ 228 rfl 9 161 law Tryz.underlying228 unitElem b _ D' rfl (World.ownsMap.alloc hown1 _) hml _ _ (keyL s) rfl rfl (keyOf_name hs1) (.agg []) [] unitElem_mk ?_; intro w2 hown2 hturn2))
          go_returns
          exact ⟨D', by rw [HE.out, ← HS.out]; rfl, World.ownsMap.alloc hown1 _, by rw [HE.out]; exact hU1.out, grow_alloc hG _⟩
        · have hnin : inB sn s = false := by simpa using hin
          have HE : Hid (formsF wordS (ss.drop (k + 1)) (sn ++ [s]) = formsF wordS ss seen) := by
            unfold Hid
            rw [← HF.out, HD.out]
            simp [formsF, hf, hnin]
          have hh : Maps.has D' (keyL s) = false := (hU1.out.has_ s).trans hnin
          go_wp2_with (first | (at_len; refine wpList_len_own _ rfl _ 228 rfl 9 161 Tryz.underlying228 unitElem b _ D' rfl hown1 ?_) | (go_at_call 162; refine (isword_any s _ hs2).mono ?_; rintro e w' ⟨rfl, rfl⟩) | (at_lookup; refine wpList_lookup_own_unit _ rfl _ _ 228 rfl 9 161 law Tryz.underlying228 (zeroUnit _) b _ D' rfl hown1 _ _ rfl (keyOf_name hs1) ?_) | (at_mapUpdate; refine wpList_mapUpdate_in _ rfl _ _ _ 228 rfl 9 161 law Tryz.underlying228 unitElem b _ D' rfl (World.ownsMap.alloc hown1 _) hml _ _ (keyL s) rfl rfl (keyOf_name hs1) (.agg []) [] unitElem_mk ?_; intro w2 hown2 hturn2))
          have hput := hU1.out.put hnin
          have e0 := HS.out
          have e1 := hput.size
          simp only [List.length_append, List.length_singleton] at e1
          have e2 : Maps.size (D'.put (keyL s) (.agg [])) = Maps.size D' + 1 := by rw [e1, e0]
          go_roundw
          case rel => exact ⟨k + 1, _, sn ++ [s], by omega, by go_num, by rw [e2]; exact hown2, hput, (grow_alloc hG _).trans hturn2.grown, HE, by unfold Hid; have e3 := HN.out; simp; omega⟩
          case measure => simp [intOf]; omega
      · have hf0 : wordS s = false := by simpa using hf
        have HE : Hid (formsF wordS ss seen = ((21 : Int), (sn.length : Int), sn)) := by
          unfold Hid
          rw [← HF.out, HD.out]
          simp [formsF, hf0]
        go_wp2_with (first | (at_len; refine wpList_len_own _ rfl _ 228 rfl 9 161 Tryz.underlying228 unitElem b _ D' rfl hown1 ?_) | (go_at_call 162; refine (isword_any s _ hs2).mono ?_; rintro e w' ⟨rfl, rfl⟩) | (at_lookup; refine wpList_lookup_own_unit _ rfl _ _ 228 rfl 9 161 law Tryz.underlying228 (zeroUnit _) b _ D' rfl hown1 _ _ rfl (keyOf_name hs1) ?_) | (at_mapUpdate; refine wpList_mapUpdate_in _ rfl _ _ _ 228 rfl 9 161 law Tryz.underlying228 unitElem b _ D' rfl (World.ownsMap.alloc hown1 _) hml _ _ (keyL s) rfl rfl (keyOf_name hs1) (.agg []) [] unitElem_mk ?_; intro w2 hown2 hturn2))
        go_returns
        exact ⟨D', by rw [HE.out, ← HS.out]; rfl, hown1, by rw [HE.out]; exact hU1.out, hG⟩
    · have HE : Hid (formsF wordS ss seen = ((0 : Int), (0 : Int), sn)) := by
        unfold Hid
        rw [← HF.out, List.drop_eq_nil_of_le (by omega)]
        rfl
      go_wp2
      go_returns
      exact ⟨D', by rw [HE.out]; rfl, hown1, by rw [HE.out]; exact hU1.out, hG⟩
set_option maxRecDepth 100000 in
set_option maxHeartbeats 2000000 in
theorem forms_term (ao : Option Addr) (cap b : Nat) (ss seen : List ByteArray) (D : DataW Unit) (w : World) (hl : ss.length ≤ 64) (hsz : ∀ s ∈ ss, s.size ≤ maxLen) (hn : seen.length ≤ 1000) (hr : StrRow w ao ss)
    (hown : w.ownsMap Tryz.prog 9 unitElem b (Maps.size D) D) (hU : USet D seen) :
    Calls Tryz.prog 160 #[.slice ao ss.length cap, .func (.func 161) #[] #[], .map (some b)] w fun e w' => ∃ D', FOut w w' b (formsF termS ss seen) e D' := by
  go_enter Tryz.func160, Tryz.ntmps160
  go_wp2
  go_loopw [15] (fun i wr => ∃ (k : Nat) (D' : DataW Unit) (sn : List ByteArray), k ≤ ss.length ∧ i = .int .i64 k ∧ wr.ownsMap Tryz.prog 9 unitElem b (Maps.size D') D' ∧ Hid (USet D' sn) ∧ w.grownBy wr (some b) ∧ Hid (formsF termS (ss.drop k) sn = formsF termS ss seen) ∧ Hid (sn.length = seen.length + k)) (fun i _ => ss.length - (intOf i).toNat)
  case atStart => exact ⟨0, D, seen, Nat.zero_le _, rfl, hown, hU, ⟨rfl, rfl, rfl, Nat.le_refl _, fun _ _ _ => rfl⟩, rfl, rfl⟩
  case round =>
    obtain ⟨k, D', sn, hk, rfl, hown1, hU1, hG, HF, HN⟩ := hrel
    by_cases hlt : k < ss.length
    · obtain ⟨q, off, rfl, hq, hc⟩ := hr (by intro h; subst h; simp at hlt)
      have hqb : q ≠ b := by
        intro e
        obtain ⟨es, cl, hbm, _⟩ := hown
        have := hc k hlt
        subst e
        simp [World.cell?, hbm] at this
      have h1 : wr.cell? ⟨q, off + k, none⟩ = some (.string (ss.getD k ByteArray.empty)) := by
        rw [← hc k hlt]
        simp [World.cell?, hG.block q hq (by simpa using hqb)]
      have hs1 : (ss.getD k ByteArray.empty).size ≤ maxLen := hsz _ (by simp [List.getD, hlt])
      have HD : Hid (ss.drop k = ss.getD k ByteArray.empty :: ss.drop (k + 1)) := by
        unfold Hid
        rw [List.drop_eq_getElem_cons hlt]
        simp [List.getD, hlt]
      clear hc hr
      generalize ss.getD k ByteArray.empty = s at *
      have hs2 : s.size ≤ 9223372036854775807 := by unfold maxLen at hs1; omega
      have klt : (k : Int) < (ss.length : Int) := by omega
      have HS : Hid (Maps.size D' = sn.length) := hU1.out.size
      have hml : Maps.size D' < maxLen := by have e1 := HS.out; have e2 := HN.out; unfold maxLen; omega
      by_cases hf : termS s = true
      · by_cases hin : inB sn s = true
        · have HE : Hid (formsF termS ss seen = ((6 : Int), (sn.length : Int), sn)) := by
            unfold Hid
            rw [← HF.out, HD.out]
            simp [formsF, hf, hin]
          have hh : Maps.has D' (keyL s) = true := (hU1.out.has_ s).trans hin
          go_wp2_with (first | (at_len; refine wpList_len_own _ rfl _ 228 rfl 9 161 Tryz.underlying228 unitElem b _ D' rfl hown1 ?_) | (go_at_call 161; refine (istermname_any s _ hs2).mono ?_; rintro e w' ⟨rfl, rfl⟩) | (at_lookup; refine wpList_lookup_own_unit _ rfl _ _ 228 rfl 9 161 law Tryz.underlying228 (zeroUnit _) b _ D' rfl hown1 _ _ rfl (keyOf_name hs1) ?_) | (at_mapUpdate; refine wpList_mapUpdate_in _ rfl _ _ _ 228 rfl 9 161 law Tryz.underlying228 unitElem b _ D' rfl (World.ownsMap.alloc hown1 _) hml _ _ (keyL s) rfl rfl (keyOf_name hs1) (.agg []) [] unitElem_mk ?_; intro w2 hown2 hturn2))
          go_returns
          exact ⟨D', by rw [HE.out, ← HS.out]; rfl, World.ownsMap.alloc hown1 _, by rw [HE.out]; exact hU1.out, grow_alloc hG _⟩
        · have hnin : inB sn s = false := by simpa using hin
          have HE : Hid (formsF termS (ss.drop (k + 1)) (sn ++ [s]) = formsF termS ss seen) := by
            unfold Hid
            rw [← HF.out, HD.out]
            simp [formsF, hf, hnin]
          have hh : Maps.has D' (keyL s) = false := (hU1.out.has_ s).trans hnin
          go_wp2_with (first | (at_len; refine wpList_len_own _ rfl _ 228 rfl 9 161 Tryz.underlying228 unitElem b _ D' rfl hown1 ?_) | (go_at_call 161; refine (istermname_any s _ hs2).mono ?_; rintro e w' ⟨rfl, rfl⟩) | (at_lookup; refine wpList_lookup_own_unit _ rfl _ _ 228 rfl 9 161 law Tryz.underlying228 (zeroUnit _) b _ D' rfl hown1 _ _ rfl (keyOf_name hs1) ?_) | (at_mapUpdate; refine wpList_mapUpdate_in _ rfl _ _ _ 228 rfl 9 161 law Tryz.underlying228 unitElem b _ D' rfl (World.ownsMap.alloc hown1 _) hml _ _ (keyL s) rfl rfl (keyOf_name hs1) (.agg []) [] unitElem_mk ?_; intro w2 hown2 hturn2))
          have hput := hU1.out.put hnin
          have e0 := HS.out
          have e1 := hput.size
          simp only [List.length_append, List.length_singleton] at e1
          have e2 : Maps.size (D'.put (keyL s) (.agg [])) = Maps.size D' + 1 := by rw [e1, e0]
          go_roundw
          case rel => exact ⟨k + 1, _, sn ++ [s], by omega, by go_num, by rw [e2]; exact hown2, hput, (grow_alloc hG _).trans hturn2.grown, HE, by unfold Hid; have e3 := HN.out; simp; omega⟩
          case measure => simp [intOf]; omega
      · have hf0 : termS s = false := by simpa using hf
        have HE : Hid (formsF termS ss seen = ((21 : Int), (sn.length : Int), sn)) := by
          unfold Hid
          rw [← HF.out, HD.out]
          simp [formsF, hf0]
        go_wp2_with (first | (at_len; refine wpList_len_own _ rfl _ 228 rfl 9 161 Tryz.underlying228 unitElem b _ D' rfl hown1 ?_) | (go_at_call 161; refine (istermname_any s _ hs2).mono ?_; rintro e w' ⟨rfl, rfl⟩) | (at_lookup; refine wpList_lookup_own_unit _ rfl _ _ 228 rfl 9 161 law Tryz.underlying228 (zeroUnit _) b _ D' rfl hown1 _ _ rfl (keyOf_name hs1) ?_) | (at_mapUpdate; refine wpList_mapUpdate_in _ rfl _ _ _ 228 rfl 9 161 law Tryz.underlying228 unitElem b _ D' rfl (World.ownsMap.alloc hown1 _) hml _ _ (keyL s) rfl rfl (keyOf_name hs1) (.agg []) [] unitElem_mk ?_; intro w2 hown2 hturn2))
        go_returns
        exact ⟨D', by rw [HE.out, ← HS.out]; rfl, hown1, by rw [HE.out]; exact hU1.out, hG⟩
    · have HE : Hid (formsF termS ss seen = ((0 : Int), (0 : Int), sn)) := by
        unfold Hid
        rw [← HF.out, List.drop_eq_nil_of_le (by omega)]
        rfl
      go_wp2
      go_returns
      exact ⟨D', by rw [HE.out]; rfl, hown1, by rw [HE.out]; exact hU1.out, hG⟩
/-- CheckNames, as a plain function. -/
def checkF (ts ns : List ByteArray) : Int × Int :=
  if 64 < ts.length then (31, 0) else if 64 < ns.length then (32, 0) else
    if (formsF termS ts []).1 ≠ 0 then ((formsF termS ts []).1, (formsF termS ts []).2.1) else
      if (formsF wordS ns (formsF termS ts []).2.2).1 ≠ 0 then ((formsF wordS ns (formsF termS ts []).2.2).1, (formsF wordS ns (formsF termS ts []).2.2).2.1) else (0, (formsF wordS ns (formsF termS ts []).2.2).2.2.length)
theorem formsF_len (form : ByteArray → Bool) : ∀ (ss seen : List ByteArray), (formsF form ss seen).2.2.length ≤ seen.length + ss.length
  | [], seen => by simp [formsF]
  | s :: r, seen => by
    unfold formsF
    split
    · simp
    · split
      · simp
      · have := formsF_len form r (seen ++ [s]); simp at this ⊢; omega
theorem below_grown {w w0 w1 : World} {b : Nat} (h : Below w.heap.size w w0) (hb : w.heap.size ≤ b) (g : w0.grownBy w1 (some b)) : Below w.heap.size w w1 :=
  ⟨g.os.trans h.os, g.tape.trans h.tape, g.output.trans h.output, Nat.le_trans h.size g.size, fun k hk => (g.block k (Nat.lt_of_lt_of_le hk h.size) (by simp; omega)).trans (h.block k hk)⟩
end Go.Proofs.YtchocojmideleaaGreatDoor
