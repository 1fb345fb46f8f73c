import Derived.Test.YtndjcbcdjcnniaaHIntact
import Derived.Test.YtndjcbcdjcnniaaSSpellR
import Derived.Test.YtndjcbcdjcnniaaSReadR
import Derived.Test.YtndjcbcdjcnniaaSBack0
namespace Go.Proofs.Ytndjcbcdjcnniaa
set_option linter.unusedVariables false
open Go.RowKit

def tyS : Nat → TypeId := fun i => if i = 8 ∨ i = 9 then 45 else 22
theorem tyS_q : ∀ i, 35 ≠ tyS i := fun i => by unfold tyS; split <;> decide
theorem tyS_str : 9 ≠ 35 ∧ ∀ i, 9 ≠ tyS i := ⟨by decide, fun i => by unfold tyS; split <;> decide⟩
theorem tyS_sym : 61 ≠ 35 ∧ ∀ i, 61 ≠ tyS i := ⟨by decide, fun i => by unfold tyS; split <;> decide⟩
abbrev hNew : Obj := .cells #[hNil, hNil, hNil, hNil, hNil, hNil, hNil, hNil, hNil, hNil, hNil, hNil, hNil, hNil, hNil, hNil, hNil, hNil, hNil, hNil, hNil, hNil] 35
/-- So it stands, its blocks from B on; few lists yet. -/
structure HB (B : Nat) (w0 w : World) (q : Nat) (V : Nat → Value) (E : Nat → List HE) : Prop where
  inv : HInv w q V tyS E
  lo : ∀ i k, (V i).ownBlock = some k → B ≤ k
  q : B ≤ q
  bel : Below B w0 w
  sz : B ≤ w.heap.size
  st : StSy E
  n2 : (E 2).length ≤ 10
  n4 : (E 4).length ≤ 10
theorem HB.later {B : Nat} {w0 w w' : World} {q : Nat} {V : Nat → Value} {E : Nat → List HE} (h : HB B w0 w q V E) (hb : Below w.heap.size w w') : HB B w0 w' q V E := ⟨h.inv.later hb, h.lo, h.q, h.bel.trans (hb.mono h.sz), Nat.le_trans h.sz hb.size, h.st, h.n2, h.n4⟩
theorem hb_new (w : World) : HB w.heap.size w (w.alloc hNew) w.heap.size (fun _ => hNil) (fun _ => []) :=
  ⟨hnew w tyS tyS_q, fun i k hk => by simp [Value.ownBlock] at hk, Nat.le_refl _, below_alloc w _, (below_alloc w hNew).size, ⟨fun e he => (by cases he), fun e he => (by cases he), fun κ _ _ => rfl⟩, by simp, by simp⟩
theorem updE_same (E : Nat → List HE) (κ : Nat) (x : HE) : updE E κ x κ = E κ ++ [x] := by simp [updE]
theorem updE_other (E : Nat → List HE) {κ j : Nat} (x : HE) (h : j ≠ κ) : updE E κ x j = E j := by simp [updE, h]
theorem lo_next {w w' : World} {q B : Nat} {V V' : Nat → Value} (hf : HF w w' q V V') (hs : B ≤ w.heap.size) (hl : ∀ i k, (V i).ownBlock = some k → B ≤ k) : ∀ i k, (V' i).ownBlock = some k → B ≤ k := fun i k hk => by
  rcases hf.mv i k hk with r | r
  · exact hl i k r
  · omega
/-- A list of texts handed in. -/
theorem hb_str {B : Nat} {w0 w : World} {q : Nat} {V : Nat → Value} {E : Nat → List HE} (h : HB B w0 w q V E) (hE : (E 2).length < 10) (ao : Option Addr) (cap : Nat) (xs : List ByteArray) (hl : xs.length ≤ 1048576) (hsz : ∀ s ∈ xs, s.size ≤ maxLen) (hr : StrRow w ao xs) :
    Calls Try.prog 9 #[.pointer (some ⟨q, 0, none⟩), .slice ao xs.length cap] w fun e w' => ∃ g, e = .returned (.slice (some ⟨g, 0, none⟩) xs.length (xs.length + 3)) ∧ ∃ (V' : Nat → Value) (x : HE) (zs : List ByteArray), HB B w0 w' q V' (updE E 2 x) ∧ x.g = g ∧ x.cs = zs.map Value.string ∧ zs.take xs.length = xs := by
  refine (hstrings q V tyS E ao _ cap xs w rfl (by omega) hsz hr h.inv (by have := h.n2; omega) rfl rfl tyS_str).mono ?_
  rintro e w' ⟨rfl, V', x, hI, hg, ht, hz, ⟨zs, hc, hk⟩, hf⟩
  refine ⟨w.heap.size, rfl, V', x, zs, ⟨hI, lo_next hf h.sz h.lo, h.q, h.bel.trans (hf.below h.sz h.q h.lo), Nat.le_trans h.sz hf.size, ⟨fun e he => ?_, fun e he => ?_, fun κ h2 h4 => ?_⟩, by rw [updE_same]; simp; omega, by rw [updE_other _ _ (by decide)]; exact h.n4⟩, hg, hc, hk⟩
  · rw [updE_same] at he
    rcases List.mem_append.1 he with r | r
    · exact h.st.str e r
    · simp at r; subst r; exact ⟨ht, hz, zs, hc⟩
  · rw [updE_other _ _ (by decide)] at he; exact h.st.sym e he
  · rw [updE_other _ _ h2]; exact h.st.no κ h2 h4
theorem hb_sym {B : Nat} {w0 w : World} {q : Nat} {V : Nat → Value} {E : Nat → List HE} (h : HB B w0 w q V E) (hE : (E 4).length < 10) (ao : Option Addr) (cap : Nat) (xs : List (Int × Int)) (hl : xs.length ≤ 1048576) (hr : SymRow w ao xs) :
    Calls Try.prog 15 #[.pointer (some ⟨q, 0, none⟩), .slice ao xs.length cap] w fun e w' => ∃ g, e = .returned (.slice (some ⟨g, 0, none⟩) xs.length (xs.length + 3)) ∧ ∃ (V' : Nat → Value) (x : HE) (zs : List (Int × Int)), HB B w0 w' q V' (updE E 4 x) ∧ x.g = g ∧ x.cs = symCells zs ∧ zs.take xs.length = xs := by
  refine (hsyms q V tyS E ao _ cap xs w rfl (by omega) hr h.inv (by have := h.n4; omega) rfl rfl tyS_sym).mono ?_
  rintro e w' ⟨rfl, V', x, hI, hg, ht, hz, ⟨zs, hc, hk⟩, hf⟩
  refine ⟨w.heap.size, rfl, V', x, zs, ⟨hI, lo_next hf h.sz h.lo, h.q, h.bel.trans (hf.below h.sz h.q h.lo), Nat.le_trans h.sz hf.size, ⟨fun e he => ?_, fun e he => ?_, fun κ h2 h4 => ?_⟩, by rw [updE_other _ _ (by decide)]; exact h.n2, by rw [updE_same]; simp; omega⟩, hg, hc, hk⟩
  · rw [updE_other _ _ (by decide)] at he; exact h.st.str e he
  · rw [updE_same] at he
    rcases List.mem_append.1 he with r | r
    · exact h.st.sym e r
    · simp at r; subst r; exact ⟨ht, hz, zs, hc⟩
  · rw [updE_other _ _ h4]; exact h.st.no κ h2 h4
/-- What was handed in can be read. -/
theorem HB.strRow {B : Nat} {w0 w : World} {q : Nat} {V : Nat → Value} {E : Nat → List HE} {x : HE} {zs xs : List ByteArray} (h : HB B w0 w q V E) (hx : x ∈ E 2) (hc : x.cs = zs.map Value.string) (hk : zs.take xs.length = xs) : StrRow w (some ⟨x.g, 0, none⟩) xs := by
  have ha := h.inv.at_ 2 x hx
  have hg := ha.hg
  rw [hc, (h.st.str x hx).1] at hg
  refine fun _ => ⟨x.g, 0, rfl, lt_of_block hg, fun i hi => ?_⟩
  have hz : i < zs.length := by have := congrArg List.length hk; simp at this; omega
  have : xs.getD i ByteArray.empty = zs.getD i ByteArray.empty := by rw [← hk]; simp [List.getD, hi]
  rw [Nat.zero_add, cellq_any hg, this]
  simp [List.getD, hz]
theorem HB.symRow {B : Nat} {w0 w : World} {q : Nat} {V : Nat → Value} {E : Nat → List HE} {x : HE} {zs xs : List (Int × Int)} (h : HB B w0 w q V E) (hx : x ∈ E 4) (hc : x.cs = symCells zs) (hk : zs.take xs.length = xs) : SymRow w (some ⟨x.g, 0, none⟩) xs := by
  have ha := h.inv.at_ 4 x hx
  have hg := ha.hg
  rw [hc, (h.st.sym x hx).1] at hg
  exact FullS.rowTake ⟨hg⟩ hk
theorem name_le {ts ns : List ByteArray} (h1 : ∀ s ∈ ts, s.size ≤ 1048576) (h2 : ∀ s ∈ ns, s.size ≤ 1048576) (k n : Int) : (nameF ts ns k n).1.size ≤ 1048576 := by
  unfold nameF
  repeat' split
  all_goals first
    | (show (ts.getD _ _).size ≤ _; rename_i hlt; have : n.toNat < ts.length := by omega
       exact h1 _ (by simp [List.getD, this]))
    | (show (ns.getD _ _).size ≤ _; rename_i hlt; have : n.toNat < ns.length := by omega
       exact h2 _ (by simp [List.getD, this]))
    | decide
/-- What both say of a list of symbols. -/
def SpS (ts ns : List ByteArray) (l : List (Int × Int)) (S : ByteArray) (ev : Int) : Prop := ((∀ q ∈ l, okN ts ns q = true) ∧ S = ⟨(joinU (l.map (nameU ts ns))).toArray⟩ ∧ ev = 0) ∨ ((¬ ∀ q ∈ l, okN ts ns q = true) ∧ S = ⟨#[]⟩ ∧ ev = 35)
theorem sps_ex (ts ns : List ByteArray) (l : List (Int × Int)) : ∃ S ev, SpS ts ns l S ev := by
  by_cases h : ∀ q ∈ l, okN ts ns q = true
  · exact ⟨_, _, .inl ⟨h, rfl, rfl⟩⟩
  · exact ⟨_, _, .inr ⟨h, rfl, rfl⟩⟩
theorem sps_of {ts ns : List ByteArray} {l : List (Int × Int)} {S : ByteArray} {ev : Int} {e : Ending} (h : SpS ts ns l S ev) (he : (∀ q ∈ l, okN ts ns q = true) ∧ e = .returned (.tuple #[.string ⟨(joinU (l.map (nameU ts ns))).toArray⟩, .int .i64 0]) ∨ (∃ q ∈ l, okN ts ns q = false) ∧ e = .returned (.tuple #[.string ⟨#[]⟩, .int .i64 35])) : e = .returned (.tuple #[.string S, .int .i64 ev]) := by
  rcases h with ⟨h1, rfl, rfl⟩ | ⟨h1, rfl, rfl⟩
  · rcases he with ⟨_, r⟩ | ⟨⟨q, hq, hf⟩, _⟩
    · exact r
    · rw [h1 q hq] at hf; cases hf
  · rcases he with ⟨r, _⟩ | ⟨_, r⟩
    · exact absurd r h1
    · exact r
/-- What comes in. -/
structure SIn4 (a0 a1 a2 : Option Addr) (ts ns : List ByteArray) (l : List (Int × Int)) (w : World) : Prop where
  z1 : ∀ s ∈ ts, s.size ≤ 1048576
  z2 : ∀ s ∈ ns, s.size ≤ 1048576
  r1 : StrRow w a0 ts
  r2 : StrRow w a1 ns
  r3 : SymRow w a2 l
  l1 : ts.length ≤ 1048576
  l2 : ns.length ≤ 1048576
  l3 : l.length ≤ 1048576
theorem SIn4.later {a0 a1 a2 : Option Addr} {ts ns : List ByteArray} {l : List (Int × Int)} {w w' : World} (h : SIn4 a0 a1 a2 ts ns l w) (hb : Below w.heap.size w w') : SIn4 a0 a1 a2 ts ns l w' := ⟨h.z1, h.z2, h.r1.later hb, h.r2.later hb, h.r3.later (Nat.le_refl _) hb, h.l1, h.l2, h.l3⟩
theorem SIn4.len {a0 a1 a2 : Option Addr} {ts ns : List ByteArray} {l : List (Int × Int)} {w : World} (h : SIn4 a0 a1 a2 ts ns l w) : (∀ s ∈ ts, s.size ≤ maxLen) ∧ ∀ s ∈ ns, s.size ≤ maxLen := ⟨fun s hs => by have := h.z1 s hs; unfold maxLen; omega, fun s hs => by have := h.z2 s hs; unfold maxLen; omega⟩
end Go.Proofs.Ytndjcbcdjcnniaa
