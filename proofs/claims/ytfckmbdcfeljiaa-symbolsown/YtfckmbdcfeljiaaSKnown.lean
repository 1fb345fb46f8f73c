import Derived.Test.YtfckmbdcfeljiaaSSpell
namespace Go.Proofs.Ytfckmbdcfeljiaa
set_option linter.unusedVariables false
open Go.RowKit Go.Maps

def kN (ns : List ByteArray) (n : Nat) : ByteArray → Option (Int × Int) := fun s => match placeS ns s with
  | some j => if n ≤ j then some (2, (j : Int)) else none
  | none => none
def kT (ts ns : List ByteArray) (n : Nat) : ByteArray → Option (Int × Int) := fun s => match placeS ts s with
  | some j => if n ≤ j then some (1, (j : Int)) else kN ns 0 s
  | none => kN ns 0 s
def known (ts ns : List ByteArray) : ByteArray → Option (Int × Int) := upd (kT ts ns 0) dollar (some (1, (ts.length : Int)))
theorem kN_end (ns : List ByteArray) : kN ns ns.length = fun _ => none := by
  funext s
  unfold kN
  cases h : placeS ns s with
  | none => rfl
  | some j => have := (placeS_spec h).1; simp only; rw [if_neg (by omega)]
theorem kT_end (ts ns : List ByteArray) : kT ts ns ts.length = kN ns 0 := by
  funext s
  unfold kT
  cases h : placeS ts s with
  | none => rfl
  | some j => have := (placeS_spec h).1; simp only; rw [if_neg (by omega)]
theorem kN_step {ns : List ByteArray} (hn : ns.Nodup) {n : Nat} (h : n < ns.length) : kN ns n = upd (kN ns (n + 1)) (ns.getD n ByteArray.empty) (some (2, (n : Int))) := by
  funext s
  unfold upd
  split
  · rename_i e
    subst e
    unfold kN
    rw [placeS_self hn h]
    simp
  · rename_i e
    unfold kN
    cases hp : placeS ns s with
    | none => rfl
    | some j =>
      have hj : j ≠ n := fun q => e (by rw [← (placeS_spec hp).2, q])
      by_cases q : n ≤ j
      · simp only; rw [if_pos q, if_pos (by omega)]
      · simp only; rw [if_neg q, if_neg (by omega)]
theorem kT_step {ts ns : List ByteArray} (hn : ts.Nodup) {n : Nat} (h : n < ts.length) : kT ts ns n = upd (kT ts ns (n + 1)) (ts.getD n ByteArray.empty) (some (1, (n : Int))) := by
  funext s
  unfold upd
  split
  · rename_i e
    subst e
    unfold kT
    rw [placeS_self hn h]
    simp
  · rename_i e
    unfold kT
    cases hp : placeS ts s with
    | none => rfl
    | some j =>
      have hj : j ≠ n := fun q => e (by rw [← (placeS_spec hp).2, q])
      by_cases q : n ≤ j
      · simp only; rw [if_pos q, if_pos (by omega)]
      · simp only; rw [if_neg q, if_neg (by omega)]
/-- The map is one's own and says so. -/
def MapAt (w : World) (b : Nat) (f : ByteArray → Option (Int × Int)) (m : Nat) : Prop := ∃ D : DataW Unit, w.ownsMap Try.prog 9 symElem b (Maps.size D) D ∧ MInv D f ∧ Maps.size D ≤ m
theorem size_put_le {D : DataW Unit} {f : ByteArray → Option (Int × Int)} (h : MInv D f) (s : ByteArray) (d : DataW Unit) : Maps.size (D.put (keyL s) d) ≤ Maps.size D + 1 := by
  rw [size_put h.tidy]
  split <;> omega
theorem MapAt.put {w2 : World} {b : Nat} {f : ByteArray → Option (Int × Int)} {m : Nat} {D : DataW Unit} (hM : MInv D f) (hz : Maps.size D ≤ m) (s : ByteArray) (k i : Int) (h : w2.ownsMap Try.prog 9 symElem b (Maps.size D + 1) (D.put (keyL s) (symD k i))) : MapAt w2 b (upd f s (some (k, i))) (m + 1) :=
  ⟨_, ownsMap_tight h, hM.put s k i, Nat.le_trans (size_put_le hM s _) (by omega)⟩
theorem below_turn {w wr w2 : World} (hB : Below w.heap.size w wr) (h : wr.mapTurned w2 w.heap.size) : Below w.heap.size w w2 := below_grown hB (Nat.le_refl _) h.grown
set_option maxRecDepth 100000 in
set_option maxHeartbeats 4000000 in
theorem byname_any (ta na : Option Addr) (tc nc : Nat) (ts ns : List ByteArray) (w : World) (h1 : ts.length ≤ 64) (h2 : ns.length ≤ 64) (hF : Fine ts ns) (hr1 : StrRow w ta ts) (hr2 : StrRow w na ns) :
    Calls Try.prog 20 #[.slice ta ts.length tc, .slice na ns.length nc] w fun e w' => e = .returned (.map (some w.heap.size)) ∧ MapAt w' w.heap.size (known ts ns) 1000 ∧ Below w.heap.size w w' := by
  have hmm : ∀ (n : Int) (w : World), (Instr.makeMap 63 (some (.int .i64 n))).run Try.prog w = .ok (.map (some w.heap.size)) (w.alloc (.map #[] 0)) := fun n w => by
    simp [Instr.makeMap, run_underlying Try.underlying63, asInt, asIntOf, Result.andThen]
  go_enter Try.func20, Try.ntmps20
  go_wp2
  go_loopw [6] (fun i wr => ∃ n : Nat, n ≤ ns.length ∧ i = .int .i64 ((n : Int) - 1) ∧ MapAt wr w.heap.size (kN ns n) (ns.length - n) ∧ Below w.heap.size w wr) (fun i _ => (intOf i + 1).toNat)
  case atStart => exact ⟨ns.length, Nat.le_refl _, rfl, ⟨.map [], World.ownsMap_made w Try.prog 9 symElem, by rw [kN_end]; exact MInv.empty, by simp [Maps.size]⟩, below_alloc w _⟩
  case round =>
    clear hmm
    obtain ⟨n, hn, rfl, ⟨D, ho, hM', hz⟩, hB⟩ := hrel
    by_cases hlt : 0 < n
    · obtain ⟨n, rfl⟩ : ∃ m, n = m + 1 := ⟨n - 1, by omega⟩
      obtain ⟨b, off, rfl, hbl, hc⟩ := (hr2.later hB) (by intro e; subst e; simp at hn)
      have hcn := hc n (by omega)
      have hs : Hid ((ns.getD n ByteArray.empty).size ≤ maxLen) := hF.len.2 _ (by simp [List.getD, show n < ns.length by omega])
      have hst : Hid (kN ns n = upd (kN ns (n + 1)) (ns.getD n ByteArray.empty) (some (2, (n : Int)))) := kN_step (List.nodup_append.1 hF.nd).2.1 (by omega)
      have hM : Hid _ := hM'
      clear hc hM'
      generalize ns.getD n ByteArray.empty = s at *
      have hnn : (((n + 1 : Nat) : Int) - 1) = n := by omega
      have hml : Maps.size D < maxLen := by unfold maxLen; omega
      rw [hnn]
      go_wp2_with (first
        | (at_mapUpdate; refine wpList_mapUpdate_in _ rfl _ _ _ 63 rfl 9 70 law Try.underlying63 symElem w.heap.size _ D rfl ho hml _ _ (keyL s) rfl rfl (keyOf_name hs.out) (symD 2 n) [] (symElem_mk 2 n) ?_; intro w2 hown2 hturn2))
      go_roundw
      case rel =>
        refine ⟨n, by omega, rfl, ?_, below_turn hB hturn2⟩
        rw [hst.out]
        have := MapAt.put hM.out hz s 2 n hown2
        rwa [show ns.length - (n + 1) + 1 = ns.length - n by omega] at this
      case measure => simp [intOf]
    · obtain rfl : n = 0 := by omega
      have hneg : ((0 : Nat) : Int) - 1 = -1 := rfl
      rw [hneg]
      have hT0 : Hid (MapAt wr w.heap.size (kT ts ns ts.length) (ns.length + (ts.length - ts.length))) := by show MapAt _ _ _ _; rw [kT_end, Nat.sub_self]; exact ⟨D, ho, hM', by simpa using hz⟩
      clear ho hM' hz hlt hn
      go_wp2
      go_loopw [7] (fun i wr => ∃ n : Nat, n ≤ ts.length ∧ i = .int .i64 ((n : Int) - 1) ∧ MapAt wr w.heap.size (kT ts ns n) (ns.length + (ts.length - n)) ∧ Below w.heap.size w wr) (fun i _ => (intOf i + 1).toNat)
      case atStart => exact ⟨ts.length, Nat.le_refl _, rfl, hT0.out, hB⟩
      case round =>
        clear hT0 hB
        obtain ⟨n, hn, rfl, ⟨D, ho, hM', hz⟩, hB⟩ := hrel
        by_cases hlt : 0 < n
        · obtain ⟨n, rfl⟩ : ∃ m, n = m + 1 := ⟨n - 1, by omega⟩
          obtain ⟨b, off, rfl, hbl, hc⟩ := (hr1.later hB) (by intro e; subst e; simp at hn)
          have hcn := hc n (by omega)
          have hs : Hid ((ts.getD n ByteArray.empty).size ≤ maxLen) := hF.len.1 _ (by simp [List.getD, show n < ts.length by omega])
          have hst : Hid (kT ts ns n = upd (kT ts ns (n + 1)) (ts.getD n ByteArray.empty) (some (1, (n : Int)))) := kT_step (List.nodup_append.1 hF.nd).1 (by omega)
          have hM : Hid _ := hM'
          clear hc hM'
          generalize ts.getD n ByteArray.empty = s at *
          have hnn : (((n + 1 : Nat) : Int) - 1) = n := by omega
          have hml : Maps.size D < maxLen := by unfold maxLen; omega
          rw [hnn]
          go_wp2_with (first
            | (at_mapUpdate; refine wpList_mapUpdate_in _ rfl _ _ _ 63 rfl 9 70 law Try.underlying63 symElem w.heap.size _ D rfl ho hml _ _ (keyL s) rfl rfl (keyOf_name hs.out) (symD 1 n) [] (symElem_mk 1 n) ?_; intro w2 hown2 hturn2))
          go_roundw
          case rel =>
            refine ⟨n, by omega, rfl, ?_, below_turn hB hturn2⟩
            rw [hst.out]
            have := MapAt.put hM.out hz s 1 n hown2
            rwa [show ns.length + (ts.length - (n + 1)) + 1 = ns.length + (ts.length - n) by omega] at this
          case measure => simp [intOf]
        · obtain rfl : n = 0 := by omega
          rw [hneg]
          have hM : Hid _ := hM'
          have hml : Maps.size D < maxLen := by unfold maxLen; omega
          have hds : dollar.size ≤ maxLen := by decide
          clear hM'
          go_wp2_with (first
            | (at_mapUpdate; refine wpList_mapUpdate_in _ rfl _ _ _ 63 rfl 9 70 law Try.underlying63 symElem w.heap.size _ D rfl ho hml _ _ (keyL dollar) rfl rfl (keyOf_name hds) (symD 1 ts.length) [] (symElem_mk 1 ts.length) ?_; intro w2 hown2 hturn2))
          go_returns
          refine ⟨rfl, ?_, below_turn hB hturn2⟩
          obtain ⟨D2, q1, q2, q3⟩ := MapAt.put hM.out hz dollar 1 ts.length hown2
          exact ⟨D2, q1, q2, by omega⟩
end Go.Proofs.Ytfckmbdcfeljiaa
