import Derived.Test.YtchocojmideleaaGreatDoorHStr
import Derived.Test.YtchocojmideleaaGreatDoorHSym0ToHSym
import Derived.Test.YtchocojmideleaaGreatDoorHInt
import Derived.Test.YtchocojmideleaaGreatDoorGDec5ToGDec8
namespace Go.Proofs.YtchocojmideleaaGreatDoor
set_option linter.unusedVariables false
open Go.RowKit

def tyG : Nat → TypeId := fun i => if i < 2 then 68 else if i < 4 then 52 else if i < 8 then 22 else 81
/-- A type that the lists of a Given are not of. -/
def OkT (t : TypeId) : Prop := t ≠ 42 ∧ t ≠ 68 ∧ t ≠ 52 ∧ t ≠ 22 ∧ t ≠ 81
theorem OkT.ty {t : TypeId} (h : OkT t) : t ≠ 42 ∧ ∀ i, t ≠ tyG i := ⟨h.1, fun i => by
  unfold tyG
  split
  · exact h.2.1
  · split
    · exact h.2.2.1
    · split
      · exact h.2.2.2.1
      · exact h.2.2.2.2⟩
theorem tyG_q : ∀ i, 42 ≠ tyG i := fun i => by
  unfold tyG
  split
  · decide
  · split
    · decide
    · split <;> decide
theorem okT_int : OkT 3 := by unfold OkT; decide
theorem okT_str : OkT 9 := by unfold OkT; decide
theorem okT_sym : OkT 29 := by unfold OkT; decide
theorem okT_prod : OkT 83 := by unfold OkT; decide
theorem okT_lev : OkT 92 := by unfold OkT; decide
theorem okT_gram : OkT 26 := by unfold OkT; decide
/-- What a handing in leaves: blocks of all other types. -/
structure Oth (w w' : World) : Prop where
  size : w.heap.size ≤ w'.heap.size
  blk : ∀ (b : Nat) (C : Array Value) (t : TypeId), w.heap[b]? = some (.cells C t (0, 0)) → OkT t → w'.heap[b]? = w.heap[b]?
theorem Oth.refl (w : World) : Oth w w := ⟨Nat.le_refl _, fun _ _ _ _ _ => rfl⟩
theorem Oth.trans {w w1 w2 : World} (h : Oth w w1) (k : Oth w1 w2) : Oth w w2 := ⟨Nat.le_trans h.size k.size, fun b C t hb ht => (k.blk b C t ((h.blk b C t hb ht).trans hb) ht).trans (h.blk b C t hb ht)⟩
theorem Oth.ofBelow {w w' : World} (h : Below w.heap.size w w') : Oth w w' := ⟨h.size, fun b _ _ hb _ => h.block b (lt_of_block hb)⟩
/-- Texts, symbols, numbers at the head of a block. -/
def TB (w : World) (g : Nat) (xs : List ByteArray) : Prop := ∃ zs : List ByteArray, w.heap[g]? = some (.cells (zs.map Value.string).toArray 9 (0, 0)) ∧ zs.take xs.length = xs
def YB (w : World) (g : Nat) (xs : List (Int × Int)) : Prop := ∃ zs : List (Int × Int), w.heap[g]? = some (.cells (symCells zs).toArray 29 (0, 0)) ∧ zs.take xs.length = xs
def NB (w : World) (g : Nat) (xs : List Int) : Prop := ∃ zs : List Int, w.heap[g]? = some (.cells (zs.map (Value.int .i64 ·)).toArray 3 (0, 0)) ∧ zs.take xs.length = xs
theorem TB.oth {w w' : World} {g : Nat} {xs : List ByteArray} (h : TB w g xs) (ho : Oth w w') : TB w' g xs := by obtain ⟨zs, h1, h2⟩ := h; exact ⟨zs, (ho.blk _ _ _ h1 okT_str).trans h1, h2⟩
theorem YB.oth {w w' : World} {g : Nat} {xs : List (Int × Int)} (h : YB w g xs) (ho : Oth w w') : YB w' g xs := by obtain ⟨zs, h1, h2⟩ := h; exact ⟨zs, (ho.blk _ _ _ h1 okT_sym).trans h1, h2⟩
theorem NB.oth {w w' : World} {g : Nat} {xs : List Int} (h : NB w g xs) (ho : Oth w w') : NB w' g xs := by obtain ⟨zs, h1, h2⟩ := h; exact ⟨zs, (ho.blk _ _ _ h1 okT_int).trans h1, h2⟩
theorem take_getD {α : Type} {zs xs : List α} {d : α} (h : zs.take xs.length = xs) {i : Nat} (hi : i < xs.length) : i < zs.length ∧ xs.getD i d = zs.getD i d := by
  have hz : i < zs.length := by have := congrArg List.length h; simp at this; omega
  refine ⟨hz, ?_⟩
  rw [← h]
  simp [List.getD, hi]
theorem TB.row {w : World} {g : Nat} {xs : List ByteArray} (h : TB w g xs) : StrRow w (some ⟨g, 0, none⟩) xs := by
  obtain ⟨zs, h1, h2⟩ := h
  refine fun _ => ⟨g, 0, rfl, lt_of_block h1, fun i hi => ?_⟩
  obtain ⟨hz, e⟩ := take_getD (d := ByteArray.empty) h2 hi
  rw [Nat.zero_add, cellq_any h1, e]
  simp [List.getD, hz]
theorem NB.row {w : World} {g : Nat} {xs : List Int} (h : NB w g xs) : InRow w (some ⟨g, 0, none⟩) xs := by
  obtain ⟨zs, h1, h2⟩ := h
  refine fun _ => ⟨g, 0, rfl, lt_of_block h1, fun i hi => ?_⟩
  obtain ⟨hz, e⟩ := take_getD (d := (0 : Int)) h2 hi
  rw [Nat.zero_add, cellq_any h1, e]
  simp [List.getD, hz]
theorem YB.row {w : World} {g : Nat} {xs : List (Int × Int)} (h : YB w g xs) : SymRow w (some ⟨g, 0, none⟩) xs := by
  obtain ⟨zs, h1, h2⟩ := h
  exact FullS.rowTake ⟨h1⟩ h2
/-- Only numbers, texts and symbols were handed in. -/
structure StG (E : Nat → List HE) : Prop where
  int : ∀ e ∈ E 1, e.t = 3 ∧ e.sz = 1 ∧ ∃ zs : List Int, e.cs = zs.map (Value.int .i64 ·)
  str : ∀ e ∈ E 2, e.t = 9 ∧ e.sz = 1 ∧ ∃ zs : List ByteArray, e.cs = zs.map Value.string
  sym : ∀ e ∈ E 4, e.t = 29 ∧ e.sz = 2 ∧ ∃ zs : List (Int × Int), e.cs = symCells zs
  no : ∀ κ, κ ≠ 1 → κ ≠ 2 → κ ≠ 4 → E κ = []
/-- So it stands, its blocks from B on. -/
structure HG (B : Nat) (w0 w : World) (q : Nat) (V : Nat → Value) (E : Nat → List HE) (n1 n2 n4 : Nat) : Prop where
  inv : HInv w q V tyG E
  lo : ∀ i k, (V i).ownBlock = some k → B ≤ k
  q : B ≤ q
  bel : Below B w0 w
  sz : B ≤ w.heap.size
  st : StG E
  l1 : (E 1).length = n1
  l2 : (E 2).length = n2
  l4 : (E 4).length = n4
section
variable {B : Nat} {w0 w w' : World} {q : Nat} {V : Nat → Value} {E : Nat → List HE} {n1 n2 n4 : Nat}
theorem HG.later (h : HG B w0 w q V E n1 n2 n4) (hb : Below w.heap.size w w') : HG B w0 w' q V E n1 n2 n4 := ⟨h.inv.later hb, h.lo, h.q, h.bel.trans (hb.mono h.sz), Nat.le_trans h.sz hb.size, h.st, h.l1, h.l2, h.l4⟩
/-- A change of blocks of other types than its own. -/
theorem HG.kept (h : HG B w0 w q V E n1 n2 n4) (hs : w.heap.size ≤ w'.heap.size) (hb : Below B w w') (hk : ∀ (k : Nat) (C : Array Value) (t : TypeId), w.heap[k]? = some (.cells C t (0, 0)) → t ≠ 83 → t ≠ 92 → t ≠ 26 → w'.heap[k]? = w.heap[k]?) : HG B w0 w' q V E n1 n2 n4 := by
  have ent : ∀ κ, ∀ e ∈ E κ, e.t ≠ 83 ∧ e.t ≠ 92 ∧ e.t ≠ 26 := fun κ e he => by
    by_cases k1 : κ = 1
    · subst k1; rw [(h.st.int e he).1]; decide
    by_cases k2 : κ = 2
    · subst k2; rw [(h.st.str e he).1]; decide
    by_cases k4 : κ = 4
    · subst k4; rw [(h.st.sym e he).1]; decide
    rw [h.st.no κ k1 k2 k4] at he; cases he
  have tyn : ∀ i, tyG i ≠ 83 ∧ tyG i ≠ 92 ∧ tyG i ≠ 26 := fun i => by
    unfold tyG
    split
    · decide
    · split
      · decide
      · split <;> decide
  refine ⟨⟨(hk _ _ _ h.inv.hq (by decide) (by decide) (by decide)).trans h.inv.hq, fun i => ?_, h.inv.apart, fun κ e he => (h.inv.at_ κ e he).keptBy fun k C hC => hk k C _ hC (ent κ e he).1 (ent κ e he).2.1 (ent κ e he).2.2, h.inv.tq, h.inv.te⟩, h.lo, h.q, h.bel.trans hb, Nat.le_trans h.sz hs, h.st, h.l1, h.l2, h.l4⟩
  exact row_kept (h.inv.row i) fun k C _ hC => hk k C _ hC (tyn i).1 (tyn i).2.1 (tyn i).2.2
theorem hg_oth {V' : Nat → Value} (h : HInv w q V tyG E) (hf : HF w w' q V V') : Oth w w' := ⟨hf.size, fun b C t hb ht => h.other hf hb ht.ty⟩
theorem upd_same (E : Nat → List HE) (κ : Nat) (x : HE) : updE E κ x κ = E κ ++ [x] := by simp [updE]
theorem upd_other (E : Nat → List HE) {κ j : Nat} (x : HE) (h : j ≠ κ) : updE E κ x j = E j := by simp [updE, h]
theorem lo_then {V' : Nat → Value} (hf : HF w w' q V V') (hs : B ≤ w.heap.size) (hl : ∀ i k, (V i).ownBlock = some k → B ≤ k) : ∀ i k, (V' i).ownBlock = some k → B ≤ k := fun i k hk => by
  rcases hf.mv i k hk with r | r
  · exact hl i k r
  · omega
/-- What a handing in answers. -/
structure HGOut (B : Nat) (w0 w w' : World) (q : Nat) (n1 n2 n4 : Nat) : Prop where
  ex : ∃ V' E', HG B w0 w' q V' E' n1 n2 n4
  oth : Oth w w'
  bel : Below B w w'
theorem hg_str (h : HG B w0 w q V E n1 n2 n4) (hE : n2 ≤ 1900000) (ao : Option Addr) (cap : Nat) (xs : List ByteArray) (hl : xs.length ≤ 1048576) (hsz : ∀ s ∈ xs, s.size ≤ maxLen) (hr : StrRow w ao xs) :
    Calls Tryz.prog 40 #[.pointer (some ⟨q, 0, none⟩), .slice ao xs.length cap] w fun e w' => e = .returned (.slice (some ⟨w.heap.size, 0, none⟩) xs.length (xs.length + 3)) ∧ HGOut B w0 w w' q n1 (n2 + 1) n4 ∧ TB w' w.heap.size xs := by
  refine (hstrings q V tyG E ao _ cap xs w rfl (by omega) hsz hr h.inv (by have := h.l2; omega) rfl rfl okT_str.ty).mono ?_
  rintro e w' ⟨rfl, V', x, hI, hg, ht, hz, ⟨zs, hc, hk⟩, hf⟩
  have hb := hf.below h.sz h.q h.lo
  refine ⟨rfl, ⟨⟨V', updE E 2 x, hI, lo_then hf h.sz h.lo, h.q, h.bel.trans hb, Nat.le_trans h.sz hf.size, ⟨fun e he => ?_, fun e he => ?_, fun e he => ?_, fun κ k1 k2 k4 => ?_⟩, by rw [upd_other _ _ (by decide)]; exact h.l1, by rw [upd_same]; simp [h.l2], by rw [upd_other _ _ (by decide)]; exact h.l4⟩, hg_oth h.inv hf, hb⟩, ?_⟩
  · rw [upd_other _ _ (by decide)] at he; exact h.st.int e he
  · rw [upd_same] at he
    rcases List.mem_append.1 he with r | r
    · exact h.st.str e r
    · simp at r; subst r; exact ⟨ht, hz, zs, hc⟩
  · rw [upd_other _ _ (by decide)] at he; exact h.st.sym e he
  · rw [upd_other _ _ k2]; exact h.st.no κ k1 k2 k4
  · have ha := (hI.at_ 2 x (by rw [upd_same]; simp)).hg
    rw [hc, ht, hg] at ha
    exact ⟨zs, ha, hk⟩
theorem hg_sym (h : HG B w0 w q V E n1 n2 n4) (hE : n4 ≤ 1900000) (ao : Option Addr) (cap : Nat) (xs : List (Int × Int)) (hl : xs.length ≤ 1048576) (hr : SymRow w ao xs) :
    Calls Tryz.prog 41 #[.pointer (some ⟨q, 0, none⟩), .slice ao xs.length cap] w fun e w' => e = .returned (.slice (some ⟨w.heap.size, 0, none⟩) xs.length (xs.length + 3)) ∧ HGOut B w0 w w' q n1 n2 (n4 + 1) ∧ YB w' w.heap.size xs := by
  refine (hsyms q V tyG E ao _ cap xs w rfl (by omega) hr h.inv (by have := h.l4; omega) rfl rfl okT_sym.ty).mono ?_
  rintro e w' ⟨rfl, V', x, hI, hg, ht, hz, ⟨zs, hc, hk⟩, hf⟩
  have hb := hf.below h.sz h.q h.lo
  refine ⟨rfl, ⟨⟨V', updE E 4 x, hI, lo_then hf h.sz h.lo, h.q, h.bel.trans hb, Nat.le_trans h.sz hf.size, ⟨fun e he => ?_, fun e he => ?_, fun e he => ?_, fun κ k1 k2 k4 => ?_⟩, by rw [upd_other _ _ (by decide)]; exact h.l1, by rw [upd_other _ _ (by decide)]; exact h.l2, by rw [upd_same]; simp [h.l4]⟩, hg_oth h.inv hf, hb⟩, ?_⟩
  · rw [upd_other _ _ (by decide)] at he; exact h.st.int e he
  · rw [upd_other _ _ (by decide)] at he; exact h.st.str e he
  · rw [upd_same] at he
    rcases List.mem_append.1 he with r | r
    · exact h.st.sym e r
    · simp at r; subst r; exact ⟨ht, hz, zs, hc⟩
  · rw [upd_other _ _ k4]; exact h.st.no κ k1 k2 k4
  · have ha := (hI.at_ 4 x (by rw [upd_same]; simp)).hg
    rw [hc, ht, hg] at ha
    exact ⟨zs, ha, hk⟩
theorem hg_int (h : HG B w0 w q V E n1 n2 n4) (hE : n1 ≤ 1900000) (ao : Option Addr) (cap : Nat) (xs : List Int) (hl : xs.length ≤ 1048576) (hr : InRow w ao xs) :
    Calls Tryz.prog 26 #[.pointer (some ⟨q, 0, none⟩), .slice ao xs.length cap] w fun e w' => e = .returned (.slice (some ⟨w.heap.size, 0, none⟩) xs.length (xs.length + 3)) ∧ HGOut B w0 w w' q (n1 + 1) n2 n4 ∧ NB w' w.heap.size xs := by
  refine (hints q V tyG E ao _ cap xs w rfl (by omega) hr h.inv (by have := h.l1; omega) rfl rfl okT_int.ty).mono ?_
  rintro e w' ⟨rfl, V', x, hI, hg, ht, hz, ⟨zs, hc, hk⟩, hf⟩
  have hb := hf.below h.sz h.q h.lo
  refine ⟨rfl, ⟨⟨V', updE E 1 x, hI, lo_then hf h.sz h.lo, h.q, h.bel.trans hb, Nat.le_trans h.sz hf.size, ⟨fun e he => ?_, fun e he => ?_, fun e he => ?_, fun κ k1 k2 k4 => ?_⟩, by rw [upd_same]; simp [h.l1], by rw [upd_other _ _ (by decide)]; exact h.l2, by rw [upd_other _ _ (by decide)]; exact h.l4⟩, hg_oth h.inv hf, hb⟩, ?_⟩
  · rw [upd_same] at he
    rcases List.mem_append.1 he with r | r
    · exact h.st.int e r
    · simp at r; subst r; exact ⟨ht, hz, zs, hc⟩
  · rw [upd_other _ _ (by decide)] at he; exact h.st.str e he
  · rw [upd_other _ _ (by decide)] at he; exact h.st.sym e he
  · rw [upd_other _ _ k1]; exact h.st.no κ k1 k2 k4
  · have ha := (hI.at_ 1 x (by rw [upd_same]; simp)).hg
    rw [hc, ht, hg] at ha
    exact ⟨zs, ha, hk⟩
end
end Go.Proofs.YtchocojmideleaaGreatDoor
