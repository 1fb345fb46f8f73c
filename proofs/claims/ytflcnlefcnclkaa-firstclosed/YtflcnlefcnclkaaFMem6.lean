import Derived.Test.YtflcnlefcnclkaaFMem5
namespace Go.Proofs.Ytflcnlefcnclkaa
set_option linter.unusedVariables false
open Go.RowKit

/-- A list of one's own can be read. -/
theorem IL.inrow {w : World} {a : Option Addr} {c : Nat} {l : List Int} (h : IL w (.slice a l.length c) l) : InRow w a l := by
  intro hne
  rcases h.2 with ⟨e, h0⟩ | ⟨g, cap, cur, e, _, hb, hn, _, hs, ht⟩
  · exact absurd (List.eq_nil_of_length_eq_zero h0) hne
  · simp only [Value.slice.injEq] at e
    obtain ⟨rfl, _, rfl⟩ := e
    refine ⟨g, 0, rfl, lt_of_block hb, fun i hi => ?_⟩
    rw [cellq_any hb]
    have e2 : (cur.toList.take (l.length * 1))[i]? = (l.map (Value.int .i64 ·))[i]? := by rw [ht]
    rw [List.getElem?_take_of_lt (by omega)] at e2
    simp only [Array.getElem?_toList] at e2
    rw [Nat.zero_add, e2]
    simp [List.getD, hi]
set_option maxRecDepth 100000 in
set_option maxHeartbeats 2000000 in
theorem list_S (s : BS) (hs : OkS s) (w : World) :
    Calls Try.prog 34 #[sv s] w fun e w' => ∃ a c, e = .returned (.slice a (listS s 128).length c) ∧ IL w' (.slice a (listS s 128).length c) (listS s 128) ∧ (∀ j, (Value.slice a (listS s 128).length c).ownBlock = some j → w.heap.size ≤ j) ∧ Below w.heap.size w w' := by
  have X0 : Hid ((w.alloc (sBox s)).heap[w.heap.size]? = some (sBox s)) := heap_alloc_new _ _
  have HC : Hid (∀ (n : Nat) (w' : World), n < 128 → Calls Try.prog 46 #[sv s, .int .i64 n] w' fun e w2 => e = .returned (.bool (hasS s n)) ∧ Below w'.heap.size w' w2) := fun n w' hn => has_S s n hn hs w'
  have HL : Hid (∀ k, listS s (k + 1) = listS s k ++ (if hasS s k then [(k : Int)] else [])) := listS_succ s
  have HN : Hid (∀ k, (listS s k).length ≤ k) := listS_len s
  obtain ⟨s1, s2⟩ := s
  clear hs
  go_enter Try.func34, Try.ntmps34
  go_wp2
  go_loopw [3, 5] (fun v z wr => ∃ k : Nat, k ≤ 128 ∧ z = .int .i64 k ∧ IL wr v (listS (s1, s2) k) ∧ (∀ j, v.ownBlock = some j → w.heap.size + 1 ≤ j) ∧ wr.heap[w.heap.size]? = some (sBox (s1, s2)) ∧ Below w.heap.size w wr) (fun _ z _ => 128 - (intOf z).toNat)
  case atStart => exact ⟨0, Nat.zero_le _, rfl, IL.nil _, (fun j hj => by simp [Value.ownBlock] at hj), X0.out, below_alloc _ _⟩
  case round =>
    obtain ⟨k, hk, rfl, hI, hv, hX, hb⟩ := hrel
    obtain ⟨va, vc, rfl⟩ := il_len hI
    by_cases hlt : k < 128
    · have klt : (k : Int) < 128 := by omega
      have c0 : wr.cell? ⟨w.heap.size, 0, none⟩ = some (.int .u64 (s1 : Int)) := (cellq_any hX).trans rfl
      have c1 : wr.cell? ⟨w.heap.size, 1, none⟩ = some (.int .u64 (s2 : Int)) := (cellq_any hX).trans rfl
      have hst : Hid _ := HL.out k
      have hnn := HN.out k
      have FC : Hid (Calls Try.prog 46 #[sv (s1, s2), .int .i64 k] wr fun e w2 => e = .returned (.bool (hasS (s1, s2) k)) ∧ Below wr.heap.size wr w2) := HC.out k wr hlt
      generalize hR : listS (s1, s2) k = R at *
      generalize hF : hasS (s1, s2) k = F at *
      have H : Hid (IL wr (.slice va R.length vc) R ∧ (∀ j, (Value.slice va R.length vc).ownBlock = some j → w.heap.size + 1 ≤ j) ∧ wr.heap[w.heap.size]? = some (sBox (s1, s2)) ∧ Below w.heap.size w wr) := ⟨hI, hv, hX, hb⟩
      clear hI hv hX hb
      cases F
      · go_wp2_with (go_at_call 46; refine FC.out.mono ?_; rintro e w2 ⟨rfl, b2⟩; have B2 : Hid (Below wr.heap.size wr w2) := b2; clear b2)
        go_roundw
        case rel =>
          obtain ⟨hI, hv, hX, hb⟩ := H.out
          refine ⟨k + 1, by omega, by go_num, ?_, hv, (B2.out.block _ (lt_of_block hX)).trans hX, hb.trans (B2.out.mono hb.size)⟩
          rw [hst.out]
          simpa using hI.later B2.out
        case measure => simp [intOf]; omega
      · go_wp2_with (first
          | (go_at_call 46; refine FC.out.mono ?_; rintro e w2 ⟨rfl, b2⟩; have B2 : Hid (Below wr.heap.size wr w2) := b2; have I2 : Hid (IL (w2.alloc (.cells #[.int .i64 k] 3)) (.slice va R.length vc) R) := (H.out.1.later b2).later (below_alloc _ _); clear b2)
          | (at_builtin; refine wpList_il_append rfl _ _ rfl (.slice va R.length vc) R rfl I2.out _ 1 k rfl (by simp) (by omega) ?_; intro a4 n4 c4 w4 ho4 hg4))
        go_roundw
        case rel =>
          obtain ⟨hI, hv, hX, hb⟩ := H.out
          have hsz : w.heap.size + 1 ≤ wr.heap.size := lt_of_block hX
          have hB3 : Below wr.heap.size wr (w2.alloc (.cells #[.int .i64 k] 3)) := B2.out.trans ((below_alloc _ _).mono B2.out.size)
          have hlo : ∀ j, (Value.slice a4 n4 c4).ownBlock = some j → w.heap.size + 1 ≤ j := fun j hj => by
            rcases hg4.moved with e | ⟨z, e, hz⟩
            · exact hv j (e ▸ hj)
            · rw [hj] at e; have := Option.some.inj e; have := hB3.size; omega
          have hkx : w4.heap[w.heap.size]? = some (sBox (s1, s2)) := by
            rw [hg4.grown.block _ (Nat.lt_of_lt_of_le (lt_of_block hX) hB3.size) (fun e => by have := hv _ e.symm; omega), hB3.block _ (lt_of_block hX)]
            exact hX
          refine ⟨k + 1, by omega, by go_num, ?_, hlo, hkx, ?_⟩
          · rw [hst.out]
            simpa using ho4
          · exact (hb.trans (hB3.mono hb.size)).grown hg4.grown (Nat.le_trans hb.size hB3.size) (fun j e => by have := hv j e; omega)
        case measure => simp [intOf]; omega
    · obtain rfl : k = 128 := by omega
      have H : Hid (IL wr (.slice va (listS (s1, s2) 128).length vc) (listS (s1, s2) 128) ∧ (∀ j, (Value.slice va (listS (s1, s2) 128).length vc).ownBlock = some j → w.heap.size + 1 ≤ j) ∧ Below w.heap.size w wr) := ⟨hI, hv, hb⟩
      clear hI hv hX hb
      go_wp2
      go_ret
      exact ⟨va, vc, rfl, H.out.1, fun j hj => Nat.le_of_succ_le (H.out.2.1 j hj), H.out.2.2⟩
/-- Sets that fill their block. -/
def setCells (F : List BS) : List Value := F.flatMap fun s => [.int .u64 (s.1 : Int), .int .u64 (s.2 : Int)]
theorem setCells_len (F : List BS) : (setCells F).length = F.length * 2 := by
  induction F with
  | nil => rfl
  | cons a r ih =>
    have e : setCells (a :: r) = .int .u64 (a.1 : Int) :: .int .u64 (a.2 : Int) :: setCells r := rfl
    rw [e]
    simp only [List.length_cons, ih]
    omega
theorem setCells_get (F : List BS) : ∀ k, k < F.length → (setCells F)[k * 2]? = some (.int .u64 ((F.getD k (0, 0)).1 : Int)) ∧ (setCells F)[k * 2 + 1]? = some (.int .u64 ((F.getD k (0, 0)).2 : Int)) := by
  induction F with
  | nil => intro k hk; simp at hk
  | cons a r ih =>
    intro k hk
    have e : setCells (a :: r) = .int .u64 (a.1 : Int) :: .int .u64 (a.2 : Int) :: setCells r := rfl
    cases k with
    | zero => rw [e]; exact ⟨rfl, rfl⟩
    | succ k =>
      have := ih k (by simpa using hk)
      rw [e, show (k + 1) * 2 = k * 2 + 1 + 1 by omega]
      simpa using this
theorem setCells_set {F : List BS} {k : Nat} {s : BS} (hk : k < F.length) : setCells (F.set k s) = ((setCells F).set (k * 2) (.int .u64 (s.1 : Int))).set (k * 2 + 1) (.int .u64 (s.2 : Int)) := by
  induction F generalizing k with
  | nil => simp at hk
  | cons a r ih =>
    have e1 : ∀ (x : BS) (m : List BS), setCells (x :: m) = .int .u64 (x.1 : Int) :: .int .u64 (x.2 : Int) :: setCells m := fun _ _ => rfl
    cases k with
    | zero => simp [e1]
    | succ k =>
      rw [List.set_cons_succ, e1, e1, ih (by simpa using hk), show (k + 1) * 2 = k * 2 + 1 + 1 by omega, show k * 2 + 1 + 1 + 1 = (k * 2 + 1) + 1 + 1 by omega]
      simp only [List.set_cons_succ]
def SBk (w : World) (b : Nat) (F : List BS) : Prop := w.heap[b]? = some (.cells (setCells F).toArray 63 (0, 0))
theorem SBk.lt {w : World} {b : Nat} {F : List BS} (h : SBk w b F) : b < w.heap.size := lt_of_block h
theorem SBk.cell {w : World} {b : Nat} {F : List BS} (h : SBk w b F) {i : Nat} (hi : i < F.length) : w.cell? ⟨b, i * 2, none⟩ = some (.int .u64 ((F.getD i (0, 0)).1 : Int)) ∧ w.cell? ⟨b, i * 2 + 1, none⟩ = some (.int .u64 ((F.getD i (0, 0)).2 : Int)) := by
  obtain ⟨h1, h2⟩ := setCells_get F i hi
  rw [cellq_any h, cellq_any h]
  exact ⟨by simpa using h1, by simpa using h2⟩
theorem SBk.free {w : World} {b : Nat} {F : List BS} (h : SBk w b F) (i : Nat) : w.frozen? ⟨b, i, none⟩ = false := by
  unfold SBk at h
  simp [World.frozen?, h]
theorem SBk.set {w : World} {b : Nat} {F : List BS} (h : SBk w b F) {i : Nat} (hi : i < F.length) (s : BS) : SBk ((w.setCell ⟨b, i * 2, none⟩ (.int .u64 (s.1 : Int))).setCell ⟨b, i * 2 + 1, none⟩ (.int .u64 (s.2 : Int))) b (F.set i s) := by
  unfold SBk
  rw [heap_set (heap_set h (i * 2) _) (i * 2 + 1) _, List.setIfInBounds_toArray, List.setIfInBounds_toArray, setCells_set hi]
theorem SBk.kept {w w' : World} {b : Nat} {F : List BS} (h : SBk w b F) (hb : w'.heap[b]? = w.heap[b]?) : SBk w' b F := hb.trans h
theorem SBk.later {w w' : World} {b : Nat} {F : List BS} (h : SBk w b F) (hb : Below w.heap.size w w') : SBk w' b F := h.kept (hb.block _ h.lt)
end Go.Proofs.Ytflcnlefcnclkaa
