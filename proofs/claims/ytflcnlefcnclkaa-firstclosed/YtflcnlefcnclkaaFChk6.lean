import Derived.Test.YtflcnlefcnclkaaFChk5
namespace Go.Proofs.Ytflcnlefcnclkaa
set_option linter.unusedVariables false
open Go.RowKit

/-- Lists of one's own: the first k rows of block b are told. -/
def LLk (w : World) (b : Nat) (T : List (List Int)) (k : Nat) : Prop := ∃ C : Array Value, w.heap[b]? = some (.cells C 39 (0, 0)) ∧ C.size = T.length ∧ ∀ i, i < k → ∃ a c, C[i]? = some (.slice a (T.getD i []).length c) ∧ IL w (.slice a (T.getD i []).length c) (T.getD i []) ∧ (∀ j, (Value.slice a (T.getD i []).length c).ownBlock = some j → b < j)
theorem LLk.lt {w : World} {b : Nat} {T : List (List Int)} {k : Nat} (h : LLk w b T k) : b < w.heap.size := by
  obtain ⟨C, h1, _⟩ := h
  exact lt_of_block h1
theorem LLk.later {w w' : World} {b : Nat} {T : List (List Int)} {k : Nat} (h : LLk w b T k) (hb : Below w.heap.size w w') : LLk w' b T k := by
  have hl := h.lt
  obtain ⟨C, h1, h2, h3⟩ := h
  refine ⟨C, (hb.block _ hl).trans h1, h2, fun i hi => ?_⟩
  obtain ⟨a, c, q1, q2, q3⟩ := h3 i hi
  exact ⟨a, c, q1, q2.later hb, q3⟩
theorem LLk.free {w : World} {b : Nat} {T : List (List Int)} {k : Nat} (h : LLk w b T k) (i : Nat) : w.frozen? ⟨b, i, none⟩ = false := by
  obtain ⟨C, h1, _⟩ := h
  simp [World.frozen?, h1]
theorem LLk.some {w : World} {b : Nat} {T : List (List Int)} {k : Nat} (h : LLk w b T k) (i : Nat) (hi : i < T.length) : ∃ v, w.cell? ⟨b, i, none⟩ = .some v := by
  obtain ⟨C, h1, h2, _⟩ := h
  exact ⟨C[i]'(by omega), by rw [cellq_any h1]; simp [show i < C.size by omega]⟩
theorem LLk.set {w : World} {b : Nat} {T : List (List Int)} {k : Nat} (h : LLk w b T k) (hk : k < T.length) {a : Option Addr} {c : Nat} (hI : IL w (.slice a (T.getD k []).length c) (T.getD k [])) (hb : ∀ j, (Value.slice a (T.getD k []).length c).ownBlock = .some j → b < j) :
    LLk (w.setCell ⟨b, k, none⟩ (.slice a (T.getD k []).length c)) b T (k + 1) := by
  obtain ⟨C, h1, h2, h3⟩ := h
  have hkeep : ∀ {v : Value} {l : List Int}, IL w v l → (∀ j, v.ownBlock = .some j → b < j) → IL (w.setCell ⟨b, k, none⟩ (.slice a (T.getD k []).length c)) v l := fun hI hj => hI.kept fun j e => Below.heap_setCell w ⟨b, k, none⟩ _ _ (show j ≠ b by have := hj j e; omega)
  refine ⟨_, heap_set h1 k _, by simpa using h2, fun i hi => ?_⟩
  by_cases e : i = k
  · subst e
    exact ⟨a, c, by simp [show i < C.size by omega], hkeep hI hb, hb⟩
  · obtain ⟨a', c', q1, q2, q3⟩ := h3 i (by omega)
    exact ⟨a', c', by rw [Array.getElem?_setIfInBounds]; simp [show ¬ k = i by omega, q1], hkeep q2 q3, q3⟩
theorem LLk.row {w : World} {b : Nat} {T : List (List Int)} (h : LLk w b T T.length) : LsRow w (.some ⟨b, 0, none⟩) T := by
  have hl := h.lt
  obtain ⟨C, h1, h2, h3⟩ := h
  intro _
  refine ⟨b, 0, rfl, hl, fun i hi => ?_⟩
  obtain ⟨a, c, q1, q2, _⟩ := h3 i hi
  exact ⟨a, c, by rw [cellq_any h1, Nat.zero_add, q1], q2.inrow⟩
theorem infoInts_parts : ∃ i, Try.prog.info? 39 = some i ∧ i.zero = some (.slice none 0 0) ∧ i.size = 1 ∧ i.bytes = 24 := by
  have h : (Try.prog.info? 39).map (fun i => (i.zero, i.size, i.bytes)) = some (some (.slice none 0 0), 1, 24) := by kernel_rfl
  cases e : Try.prog.info? 39 with
  | none => rw [e] at h; cases h
  | some i => rw [e] at h; simp at h; exact ⟨i, rfl, h⟩
theorem make_intsF (n : Nat) (hn : n ≤ 1048576) (w : World) : (Instr.makeSlice 28 (.int .i64 (n : Int)) (.int .i64 (n : Int))).run Try.prog w = .ok (.slice (some ⟨w.heap.size, 0, none⟩) n n) (w.alloc (.cells (madeCells #[.slice none 0 0] n) 39)) := by
  obtain ⟨i0, hi, hz0, hz1, hz2⟩ := infoInts_parts
  have := run_makeSlice w 28 39 i0 (.slice none 0 0) Try.underlying28 hi hz0 .i64 .i64 (n : Int) (n : Int) (by omega) (by omega) (by rw [hz1]; simp; omega) (by rw [hz2]; omega) (by omega)
  rw [hz1] at this
  simpa [Value.cells] using this
theorem LLk.made (w : World) (T : List (List Int)) : LLk (w.alloc (.cells (madeCells #[.slice none 0 0] T.length) 39)) w.heap.size T 0 := ⟨_, heap_alloc_new _ _, by simp [madeCells], fun i hi => absurd hi (Nat.not_lt_zero i)⟩
/-- What the sets hold, as lists. -/
def listsU (F : List BS) : List (List Int) := F.map fun s => listS s 128
set_option maxRecDepth 100000 in
set_option maxHeartbeats 2000000 in
theorem listsOf_S (fb c : Nat) (F : List BS) (w : World) (hF : SBk w fb F) (hn : F.length ≤ 1048576) (hok : ∀ i, OkS (F.getD i (0, 0))) :
    Calls Try.prog 16 #[.slice (some ⟨fb, 0, none⟩) F.length c] w fun e w' => ∃ b, e = .returned (.slice (some ⟨b, 0, none⟩) F.length F.length) ∧ LLk w' b (listsU F) F.length ∧ w.heap.size ≤ b ∧ Below w.heap.size w w' := by
  have hmk := make_intsF F.length hn
  have HL : Hid (∀ w', Below w.heap.size w w' → SBk w' fb F) := fun w' hb => hF.later hb
  have HOK : Hid (∀ i, OkS (F.getD i (0, 0))) := hok
  have HTL : Hid ((listsU F).length = F.length) := by simp [listsU, Hid]
  have HTG : Hid (∀ k, k < F.length → (listsU F).getD k [] = listS (F.getD k (0, 0)) 128) := fun k hk => by simp [listsU, List.getD, hk]
  have S0 : Hid (LLk (w.alloc (.cells (madeCells #[.slice none 0 0] F.length) 39)) w.heap.size (listsU F) 0) := by
    have := LLk.made w (listsU F)
    rwa [HTL.out] at this
  generalize listsU F = T at *
  clear hF hok
  go_enter Try.func16, Try.ntmps16
  go_wp2
  go_loopw [10] (fun z wr => ∃ k : Nat, k ≤ F.length ∧ z = .int .i64 k ∧ LLk wr w.heap.size T k ∧ Below w.heap.size w wr) (fun z _ => F.length - (intOf z).toNat)
  case atStart => exact ⟨0, Nat.zero_le _, rfl, S0.out, below_alloc _ _⟩
  case round =>
    clear S0 hmk
    obtain ⟨k, hk, rfl, hS, hB⟩ := hrel
    have H : Hid (LLk wr w.heap.size T k ∧ Below w.heap.size w wr) := ⟨hS, hB⟩
    by_cases hlt : k < F.length
    · have klt : (k : Int) < (F.length : Int) := by omega
      obtain ⟨y0, y1⟩ := (HL.out wr hB).cell hlt
      have SC : Hid (Calls Try.prog 34 #[sv (F.getD k (0, 0))] wr fun e w' => ∃ a c, e = .returned (.slice a (T.getD k []).length c) ∧ IL w' (.slice a (T.getD k []).length c) (T.getD k []) ∧ (∀ j, (Value.slice a (T.getD k []).length c).ownBlock = some j → wr.heap.size ≤ j) ∧ Below wr.heap.size wr w') := by
        have := list_S (F.getD k (0, 0)) (HOK.out k) wr
        rwa [← HTG.out k hlt] at this
      generalize F.getD k (0, 0) = s at *
      obtain ⟨s1, s2⟩ := s
      clear hS hB
      go_wp2_with (go_at_call 34; refine SC.out.mono ?_; rintro e w2 ⟨la, lc, rfl, i2, j2, b2⟩; have S2 : Hid (LLk w2 w.heap.size T k ∧ Below w.heap.size w w2 ∧ IL w2 (.slice la (T.getD k []).length lc) (T.getD k []) ∧ (∀ j, (Value.slice la (T.getD k []).length lc).ownBlock = some j → w.heap.size < j)) := ⟨H.out.1.later b2, H.out.2.trans (b2.mono H.out.2.size), i2, fun j hj => Nat.lt_of_lt_of_le H.out.1.lt (j2 j hj)⟩; obtain ⟨v0, y2⟩ := S2.out.1.some k (by rw [HTL.out]; exact hlt); have f0 := S2.out.1.free k; have hz := S2.out.1.lt; clear i2 j2 b2)
      go_roundw
      case rel =>
        refine ⟨k + 1, by omega, by go_num, ?_, ?_⟩
        · exact S2.out.1.set (by rw [HTL.out]; exact hlt) S2.out.2.2.1 S2.out.2.2.2
        · exact S2.out.2.1.setCell (p := ⟨w.heap.size, k, none⟩) (Nat.le_refl _) _
      case measure => simp [intOf]; omega
    · obtain rfl : k = F.length := by omega
      clear hS hB
      go_wp2
      go_ret
      exact ⟨w.heap.size, rfl, H.out.1, Nat.le_refl _, H.out.2⟩
set_option maxRecDepth 100000 in
set_option maxHeartbeats 2000000 in
theorem claimOf_S (na ao : Option Addr) (n nc c : Nat) (L : List (List Int)) (w : World) (hL : LsRow w ao L) (hn : L.length ≤ 1048576) (hb : ∀ l ∈ L, (∀ x ∈ l, 0 ≤ x ∧ x < 128) ∧ l.length ≤ 140737488355328) :
    Calls Try.prog 23 #[.slice na n nc, .slice ao L.length c] w fun e w' => ∃ fb, e = .returned (.agg #[.slice na n nc, .slice (some ⟨fb, 0, none⟩) L.length L.length]) ∧ SBk w' fb (L.map setS) ∧ w.heap.size ≤ fb ∧ Below w.heap.size w w' := by
  have X0 : Hid ((w.alloc (.cells #[.slice none 0 0, .slice none 0 0] 50)).heap[w.heap.size]? = some (.cells #[.slice none 0 0, .slice none 0 0] 50)) := heap_alloc_new _ _
  have SC : Hid (Calls Try.prog 38 #[.slice ao L.length c] (w.alloc (.cells #[.slice none 0 0, .slice none 0 0] 50)) fun e w' => ∃ fb, e = .returned (.slice (some ⟨fb, 0, none⟩) L.length L.length) ∧ SBk w' fb (L.map setS) ∧ (w.alloc (.cells #[.slice none 0 0, .slice none 0 0] 50)).heap.size ≤ fb ∧ Below (w.alloc (.cells #[.slice none 0 0, .slice none 0 0] 50)).heap.size (w.alloc (.cells #[.slice none 0 0, .slice none 0 0] 50)) w') := setsOf_S ao c L _ (hL.later (below_alloc _ _)) hn hb
  have hz0 : (w.alloc (.cells #[.slice none 0 0, .slice none 0 0] 50)).heap.size = w.heap.size + 1 := alZ _ _
  have HZ : Hid _ := hz0
  clear hL hb hz0
  go_enter Try.func23, Try.ntmps23
  go_wp2_with (go_at_call 38; refine SC.out.mono ?_; rintro e w2 ⟨fb, rfl, s2, l2, b2⟩; have S2 : Hid (SBk w2 fb (L.map setS) ∧ w.heap.size < fb ∧ Below w.heap.size w w2) := ⟨s2, (by rw [HZ.out] at l2; omega), (below_alloc w _).trans (b2.mono (below_alloc w _).size)⟩; have x2 : w2.heap[w.heap.size]? = some (.cells #[.slice none 0 0, .slice none 0 0] 50) := (b2.block _ (lt_of_block X0.out)).trans X0.out; have c0 : w2.cell? ⟨w.heap.size, 0, none⟩ = some (.slice none 0 0) := (cellq_any x2).trans rfl; have c1 : w2.cell? ⟨w.heap.size, 1, none⟩ = some (.slice none 0 0) := (cellq_any x2).trans rfl; have f0 := frostS x2 0; have f1 := frostS x2 1; have hz2 := lt_of_block x2; clear b2 s2 l2 x2)
  refine bodyPost_ret (v := .agg #[.slice na n nc, .slice (some ⟨fb, 0, none⟩) L.length L.length]) (by simp [results, Try.results23, go_sem, c0, c1]) rfl ?_
  obtain ⟨h1, h2, h3⟩ := S2.out
  refine ⟨fb, rfl, ?_, Nat.le_of_lt h2, (h3.setCell (p := ⟨w.heap.size, 0, none⟩) (Nat.le_refl _) _).setCell (p := ⟨w.heap.size, 1, none⟩) (Nat.le_refl _) _⟩
  exact (h1.kept (Below.heap_setCell w2 ⟨w.heap.size, 0, none⟩ _ _ (show fb ≠ w.heap.size by omega))).kept (Below.heap_setCell _ ⟨w.heap.size, 1, none⟩ _ _ (show fb ≠ w.heap.size by omega))
end Go.Proofs.Ytflcnlefcnclkaa
