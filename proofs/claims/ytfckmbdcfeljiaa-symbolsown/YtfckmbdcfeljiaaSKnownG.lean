import Derived.Test.YtfckmbdcfeljiaaSKnown
namespace Go.Proofs.Ytfckmbdcfeljiaa
set_option linter.unusedVariables false
open Go.RowKit Go.Maps

def gN (ns : List ByteArray) (n : Nat) : ByteArray → Option (Int × Int) := fun s => match placeS (ns.drop n) s with
  | some j => some (2, ((j + n : Nat) : Int))
  | none => none
def gT (ts ns : List ByteArray) (n : Nat) : ByteArray → Option (Int × Int) := fun s => match placeS (ts.drop n) s with
  | some j => some (1, ((j + n : Nat) : Int))
  | none => kN ns 0 s
theorem placeS_cons (x : ByteArray) (r : List ByteArray) (s : ByteArray) : placeS (x :: r) s = if x = s then some 0 else (placeS r s).map (· + 1) := by
  unfold placeS
  rw [List.findIdx?_cons]
  by_cases h : x = s <;> simp [h]
theorem gN_end (ns : List ByteArray) : gN ns ns.length = fun _ => none := by
  funext s
  unfold gN
  rw [List.drop_length]
  rfl
theorem gN_zero (ns : List ByteArray) : gN ns 0 = kN ns 0 := by
  funext s
  unfold gN kN
  rw [List.drop_zero]
  cases placeS ns s <;> simp
theorem gT_end (ts ns : List ByteArray) : gT ts ns ts.length = kN ns 0 := by
  funext s
  unfold gT
  rw [List.drop_length]
  rfl
theorem gT_zero (ts ns : List ByteArray) : gT ts ns 0 = kT ts ns 0 := by
  funext s
  unfold gT kT
  rw [List.drop_zero]
  cases placeS ts s <;> simp
theorem gN_step {ns : List ByteArray} {n : Nat} (h : n < ns.length) : gN ns n = upd (gN ns (n + 1)) (ns.getD n ByteArray.empty) (some (2, (n : Int))) := by
  funext s
  have e : ns.getD n ByteArray.empty = ns[n] := by simp [List.getD, h]
  unfold upd gN
  rw [List.drop_eq_getElem_cons h, placeS_cons, e]
  by_cases hs : ns[n] = s
  · rw [if_pos hs, if_pos hs.symm]; simp
  · rw [if_neg hs, if_neg (fun q => hs q.symm)]
    cases placeS (ns.drop (n + 1)) s with
    | none => rfl
    | some j => simp; omega
theorem gT_step {ts ns : List ByteArray} {n : Nat} (h : n < ts.length) : gT ts ns n = upd (gT ts ns (n + 1)) (ts.getD n ByteArray.empty) (some (1, (n : Int))) := by
  funext s
  have e : ts.getD n ByteArray.empty = ts[n] := by simp [List.getD, h]
  unfold upd gT
  rw [List.drop_eq_getElem_cons h, placeS_cons, e]
  by_cases hs : ts[n] = s
  · rw [if_pos hs, if_pos hs.symm]; simp
  · rw [if_neg hs, if_neg (fun q => hs q.symm)]
    cases placeS (ts.drop (n + 1)) s with
    | none => rfl
    | some j => simp; omega
set_option maxRecDepth 100000 in
set_option maxHeartbeats 4000000 in
theorem bynameG_any (ta na : Option Addr) (tc nc : Nat) (ts ns : List ByteArray) (w : World) (h1 : ts.length ≤ 1048576) (h2 : ns.length ≤ 1048576) (hz1 : ∀ s ∈ ts, s.size ≤ maxLen) (hz2 : ∀ s ∈ ns, s.size ≤ maxLen) (hr1 : StrRow w ta ts) (hr2 : StrRow w na ns) :
    Calls Try.prog 20 #[.slice ta ts.length tc, .slice na ns.length nc] w fun e w' => e = .returned (.map (some w.heap.size)) ∧ MapAt w' w.heap.size (known ts ns) 3000000 ∧ Below w.heap.size w w' := by
  have hmm : ∀ (n : Int) (w : World), (Instr.makeMap 63 (some (.int .i64 n))).run Try.prog w = .ok (.map (some w.heap.size)) (w.alloc (.map #[] 0)) := fun n w => by
    simp [Instr.makeMap, run_underlying Try.underlying63, asInt, asIntOf, Result.andThen]
  go_enter Try.func20, Try.ntmps20
  go_wp2
  go_loopw [6] (fun i wr => ∃ n : Nat, n ≤ ns.length ∧ i = .int .i64 ((n : Int) - 1) ∧ MapAt wr w.heap.size (gN ns n) (ns.length - n) ∧ Below w.heap.size w wr) (fun i _ => (intOf i + 1).toNat)
  case atStart => exact ⟨ns.length, Nat.le_refl _, rfl, ⟨.map [], World.ownsMap_made w Try.prog 9 symElem, by rw [gN_end]; exact MInv.empty, by simp [Maps.size]⟩, below_alloc w _⟩
  case round =>
    clear hmm
    obtain ⟨n, hn, rfl, ⟨D, ho, hM', hz⟩, hB⟩ := hrel
    by_cases hlt : 0 < n
    · obtain ⟨n, rfl⟩ : ∃ m, n = m + 1 := ⟨n - 1, by omega⟩
      obtain ⟨b, off, rfl, hbl, hc⟩ := (hr2.later hB) (by intro e; subst e; simp at hn)
      have hcn := hc n (by omega)
      have hs : Hid ((ns.getD n ByteArray.empty).size ≤ maxLen) := hz2 _ (by simp [List.getD, show n < ns.length by omega])
      have hst : Hid (gN ns n = upd (gN ns (n + 1)) (ns.getD n ByteArray.empty) (some (2, (n : Int)))) := gN_step (by omega)
      have hM : Hid _ := hM'
      clear hc hM'
      generalize ns.getD n ByteArray.empty = s at *
      have hnn : (((n + 1 : Nat) : Int) - 1) = n := by omega
      have hml : Maps.size D < maxLen := by unfold maxLen; omega
      rw [hnn]
      go_wp2_with (first
        | (at_mapUpdate; refine wpList_mapUpdate_in _ rfl _ _ _ 63 rfl 9 70 law Try.underlying63 symElem w.heap.size _ D rfl ho hml _ _ (keyL s) rfl rfl (keyOf_name hs.out) (symD 2 n) [] (symElem_mk 2 n) ?_; intro w2 hown2 hturn2))
      go_roundw
      case rel =>
        refine ⟨n, by omega, rfl, ?_, below_turn hB hturn2⟩
        rw [hst.out]
        have := MapAt.put hM.out hz s 2 n hown2
        rwa [show ns.length - (n + 1) + 1 = ns.length - n by omega] at this
      case measure => simp [intOf]
    · obtain rfl : n = 0 := by omega
      have hneg : ((0 : Nat) : Int) - 1 = -1 := rfl
      rw [hneg]
      have hT0 : Hid (MapAt wr w.heap.size (gT ts ns ts.length) (ns.length + (ts.length - ts.length))) := by show MapAt _ _ _ _; rw [gT_end, Nat.sub_self]; exact ⟨D, ho, by rw [← gN_zero]; exact hM', by simpa using hz⟩
      clear ho hM' hz hlt hn
      go_wp2
      go_loopw [7] (fun i wr => ∃ n : Nat, n ≤ ts.length ∧ i = .int .i64 ((n : Int) - 1) ∧ MapAt wr w.heap.size (gT ts ns n) (ns.length + (ts.length - n)) ∧ Below w.heap.size w wr) (fun i _ => (intOf i + 1).toNat)
      case atStart => exact ⟨ts.length, Nat.le_refl _, rfl, hT0.out, hB⟩
      case round =>
        clear hT0 hB
        obtain ⟨n, hn, rfl, ⟨D, ho, hM', hz⟩, hB⟩ := hrel
        by_cases hlt : 0 < n
        · obtain ⟨n, rfl⟩ : ∃ m, n = m + 1 := ⟨n - 1, by omega⟩
          obtain ⟨b, off, rfl, hbl, hc⟩ := (hr1.later hB) (by intro e; subst e; simp at hn)
          have hcn := hc n (by omega)
          have hs : Hid ((ts.getD n ByteArray.empty).size ≤ maxLen) := hz1 _ (by simp [List.getD, show n < ts.length by omega])
          have hst : Hid (gT ts ns n = upd (gT ts ns (n + 1)) (ts.getD n ByteArray.empty) (some (1, (n : Int)))) := gT_step (by omega)
          have hM : Hid _ := hM'
          clear hc hM'
          generalize ts.getD n ByteArray.empty = s at *
          have hnn : (((n + 1 : Nat) : Int) - 1) = n := by omega
          have hml : Maps.size D < maxLen := by unfold maxLen; omega
          rw [hnn]
          go_wp2_with (first
            | (at_mapUpdate; refine wpList_mapUpdate_in _ rfl _ _ _ 63 rfl 9 70 law Try.underlying63 symElem w.heap.size _ D rfl ho hml _ _ (keyL s) rfl rfl (keyOf_name hs.out) (symD 1 n) [] (symElem_mk 1 n) ?_; intro w2 hown2 hturn2))
          go_roundw
          case rel =>
            refine ⟨n, by omega, rfl, ?_, below_turn hB hturn2⟩
            rw [hst.out]
            have := MapAt.put hM.out hz s 1 n hown2
            rwa [show ns.length + (ts.length - (n + 1)) + 1 = ns.length + (ts.length - n) by omega] at this
          case measure => simp [intOf]
        · obtain rfl : n = 0 := by omega
          rw [hneg]
          have hM : Hid _ := hM'
          have hml : Maps.size D < maxLen := by unfold maxLen; omega
          have hds : dollar.size ≤ maxLen := by decide
          clear hM'
          go_wp2_with (first
            | (at_mapUpdate; refine wpList_mapUpdate_in _ rfl _ _ _ 63 rfl 9 70 law Try.underlying63 symElem w.heap.size _ D rfl ho hml _ _ (keyL dollar) rfl rfl (keyOf_name hds) (symD 1 ts.length) [] (symElem_mk 1 ts.length) ?_; intro w2 hown2 hturn2))
          go_returns
          refine ⟨rfl, ?_, below_turn hB hturn2⟩
          obtain ⟨D2, q1, q2, q3⟩ := MapAt.put hM.out hz dollar 1 ts.length hown2
          rw [gT_zero] at q2
          exact ⟨D2, q1, q2, by omega⟩
end Go.Proofs.Ytfckmbdcfeljiaa
