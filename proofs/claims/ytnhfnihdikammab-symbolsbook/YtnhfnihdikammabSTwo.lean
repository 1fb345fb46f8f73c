import Derived.Test.YtnhfnihdikammabSUndoP
namespace Go.Proofs.Ytnhfnihdikammab
set_option linter.unusedVariables false
open Go.RowKit Go.Maps

/-- The program's book and the document's, of the same names; they share no block, and lie from B on. -/
structure Two (B : Nat) (w : World) (p g b q : Nat) (T N : Value) (D : DataW Unit) (T2 N2 : Value) (ts ns : List ByteArray) : Prop where
  bk : BInv w p g b T N D ts ns
  rf : RB w q T2 N2 ts ns
  ap : ∀ k, (T2.ownBlock = some k ∨ N2.ownBlock = some k) → T.ownBlock ≠ some k ∧ N.ownBlock ≠ some k
  fine : Fine ts ns
  lo : B ≤ p ∧ B ≤ g ∧ B ≤ b ∧ B ≤ q ∧ B ≤ w.heap.size
  loT : ∀ k, T.ownBlock = some k → B ≤ k
  loN : ∀ k, N.ownBlock = some k → B ≤ k
  loT2 : ∀ k, T2.ownBlock = some k → B ≤ k
  loN2 : ∀ k, N2.ownBlock = some k → B ≤ k
section
variable {B : Nat} {w w' : World} {p g b q : Nat} {T N T2 N2 T' N' : Value} {D D' : DataW Unit} {ts ns ts' ns' : List ByteArray}
theorem Two.later (h : Two B w p g b q T N D T2 N2 ts ns) (hb : Below w.heap.size w w') : Two B w' p g b q T N D T2 N2 ts ns :=
  ⟨h.bk.later hb, h.rf.later hb, h.ap, h.fine, ⟨h.lo.1, h.lo.2.1, h.lo.2.2.1, h.lo.2.2.2.1, Nat.le_trans h.lo.2.2.2.2 hb.size⟩, h.loT, h.loN, h.loT2, h.loN2⟩
/-- The document's book, behind a call of the program's. -/
theorem Two.refKept (h : Two B w p g b q T N D T2 N2 ts ns) (hf : BFr w w' g b T N T' N') : RB w' q T2 N2 ts ns := by
  have qg : q ≠ g := by intro e; have := h.rf.hq; rw [e, h.bk.hg] at this; simp at this
  have qb : q ≠ b := by intro e; obtain ⟨es, c, hb⟩ := h.bk.bmap; have := h.rf.hq; rw [e, hb] at this; simp at this
  have row : ∀ k, (T2.ownBlock = some k ∨ N2.ownBlock = some k) → w'.heap[k]? = w.heap[k]? := fun k hk => by
    have kl : k < w.heap.size := hk.elim (fun e => h.rf.tn.lt k e) (fun e => h.rf.nn.lt k e)
    have kg : k ≠ g := by
      intro e
      rcases hk with q | q
      · exact h.rf.tn.ne h.bk.hg (by decide) (by rw [q, e])
      · exact h.rf.nn.ne h.bk.hg (by decide) (by rw [q, e])
    have kb : k ≠ b := by
      intro e
      obtain ⟨es, c, hb⟩ := h.bk.bmap
      rcases hk with q | q
      · exact h.rf.tn.neMap hb (by rw [q, e])
      · exact h.rf.nn.neMap hb (by rw [q, e])
    exact hf.block k kl kg kb (fun e => (h.ap k hk).1 e.symm) (fun e => (h.ap k hk).2 e.symm)
  exact ⟨(hf.block q (lt_of_block h.rf.hq) qg qb (h.bk.tn.ne h.rf.hq (by decide)) (h.bk.nn.ne h.rf.hq (by decide))).trans h.rf.hq, h.rf.tn.kept fun k hk => row k (.inl hk), h.rf.nn.kept fun k hk => row k (.inr hk), h.rf.apart, h.rf.tl, h.rf.nl⟩
theorem Two.apKept (h : Two B w p g b q T N D T2 N2 ts ns) (hf : BFr w w' g b T N T' N') : ∀ k, (T2.ownBlock = some k ∨ N2.ownBlock = some k) → T'.ownBlock ≠ some k ∧ N'.ownBlock ≠ some k := fun k hk => by
  have kl : k < w.heap.size := hk.elim (fun e => h.rf.tn.lt k e) (fun e => h.rf.nn.lt k e)
  refine ⟨fun e => ?_, fun e => ?_⟩
  · rcases hf.movT k e with r | r
    · exact (h.ap k hk).1 r
    · omega
  · rcases hf.movN k e with r | r
    · exact (h.ap k hk).2 r
    · omega
theorem Two.below (h : Two B w p g b q T N D T2 N2 ts ns) (hf : BFr w w' g b T N T' N') : Below B w w' := hf.below h.lo.2.2.2.2 h.lo.2.1 h.lo.2.2.1 h.loT h.loN
theorem Two.below2 (h : Two B w p g b q T N D T2 N2 ts ns) (hf : BFr w w' q q T2 N2 T' N') : Below B w w' := hf.below h.lo.2.2.2.2 h.lo.2.2.2.1 h.lo.2.2.2.1 h.loT2 h.loN2
/-- What is known when the program's book has been asked, the document's not yet. -/
structure Half (B : Nat) (w : World) (p g b q : Nat) (T N : Value) (D : DataW Unit) (T2 N2 : Value) (ts ns ts2 ns2 : List ByteArray) : Prop where
  bk : BInv w p g b T N D ts ns
  rf : RB w q T2 N2 ts2 ns2
  ap : ∀ k, (T2.ownBlock = some k ∨ N2.ownBlock = some k) → T.ownBlock ≠ some k ∧ N.ownBlock ≠ some k
  lo : B ≤ p ∧ B ≤ g ∧ B ≤ b ∧ B ≤ q ∧ B ≤ w.heap.size
  loT : ∀ k, T.ownBlock = some k → B ≤ k
  loN : ∀ k, N.ownBlock = some k → B ≤ k
  loT2 : ∀ k, T2.ownBlock = some k → B ≤ k
  loN2 : ∀ k, N2.ownBlock = some k → B ≤ k
theorem Two.half (h : Two B w p g b q T N D T2 N2 ts ns) (hf : BFr w w' g b T N T' N') (hb : BInv w' p g b T' N' D' ts' ns') : Half B w' p g b q T' N' D' T2 N2 ts' ns' ts ns :=
  ⟨hb, h.refKept hf, h.apKept hf, ⟨h.lo.1, h.lo.2.1, h.lo.2.2.1, h.lo.2.2.2.1, Nat.le_trans h.lo.2.2.2.2 hf.size⟩, fun k hk => by
    rcases hf.movT k hk with r | r
    · exact h.loT k r
    · exact Nat.le_trans h.lo.2.2.2.2 r, fun k hk => by
    rcases hf.movN k hk with r | r
    · exact h.loN k r
    · exact Nat.le_trans h.lo.2.2.2.2 r, h.loT2, h.loN2⟩
theorem Half.later {ts2 ns2 : List ByteArray} (h : Half B w p g b q T N D T2 N2 ts ns ts2 ns2) (hb : Below w.heap.size w w') : Half B w' p g b q T N D T2 N2 ts ns ts2 ns2 :=
  ⟨h.bk.later hb, h.rf.later hb, h.ap, ⟨h.lo.1, h.lo.2.1, h.lo.2.2.1, h.lo.2.2.2.1, Nat.le_trans h.lo.2.2.2.2 hb.size⟩, h.loT, h.loN, h.loT2, h.loN2⟩
theorem Half.below2 {ts2 ns2 : List ByteArray} (h : Half B w p g b q T N D T2 N2 ts ns ts2 ns2) (hf : BFr w w' q q T2 N2 T' N') : Below B w w' := hf.below h.lo.2.2.2.2 h.lo.2.2.2.1 h.lo.2.2.2.1 h.loT2 h.loN2
theorem Half.two {ts2 ns2 : List ByteArray} (h : Half B w p g b q T N D T2 N2 ts ns ts2 ns2) (hf : BFr w w' q q T2 N2 T' N') (hr : RB w' q T' N' ts ns) (hF : Fine ts ns) : Two B w' p g b q T N D T' N' ts ns := by
  have pq : p ≠ q := by intro e; have := h.rf.hq; rw [← e, h.bk.hp] at this; simp at this
  have gq : g ≠ q := by intro e; have := h.rf.hq; rw [← e, h.bk.hg] at this; simp at this
  have bq : b ≠ q := by intro e; obtain ⟨es, c, hb⟩ := h.bk.bmap; have := h.rf.hq; rw [← e, hb] at this; simp at this
  have hp := (hf.block p (lt_of_block h.bk.hp) pq pq (h.rf.tn.ne h.bk.hp (by decide)) (h.rf.nn.ne h.bk.hp (by decide))).trans h.bk.hp
  have hg := (hf.block g (lt_of_block h.bk.hg) gq gq (h.rf.tn.ne h.bk.hg (by decide)) (h.rf.nn.ne h.bk.hg (by decide))).trans h.bk.hg
  have hb : w'.heap[b]? = w.heap[b]? := by
    obtain ⟨es, c, hb⟩ := h.bk.bmap
    exact hf.block b (lt_of_block hb) bq bq (h.rf.tn.neMap hb) (h.rf.nn.neMap hb)
  have row : ∀ k, (T.ownBlock = some k ∨ N.ownBlock = some k) → w'.heap[k]? = w.heap[k]? := fun k hk => by
    have kl : k < w.heap.size := hk.elim (fun e => h.bk.tn.lt k e) (fun e => h.bk.nn.lt k e)
    have kq : k ≠ q := by
      intro e
      rcases hk with r | r
      · exact h.bk.tn.ne h.rf.hq (by decide) (by rw [r, e])
      · exact h.bk.nn.ne h.rf.hq (by decide) (by rw [r, e])
    refine hf.block k kl kq kq (fun e => ?_) (fun e => ?_)
    · rcases hk with r | r
      · exact (h.ap k (.inl e.symm)).1 r
      · exact (h.ap k (.inl e.symm)).2 r
    · rcases hk with r | r
      · exact (h.ap k (.inr e.symm)).1 r
      · exact (h.ap k (.inr e.symm)).2 r
  refine ⟨⟨hp, hg, ownsMap_kept h.bk.own hb, h.bk.look, h.bk.tn.kept fun k hk => row k (.inl hk), h.bk.nn.kept fun k hk => row k (.inr hk), h.bk.apart, h.bk.tl, h.bk.nl, h.bk.sz⟩, hr, fun k hk => ?_, hF, ⟨h.lo.1, h.lo.2.1, h.lo.2.2.1, h.lo.2.2.2.1, Nat.le_trans h.lo.2.2.2.2 hf.size⟩, h.loT, h.loN, fun k hk => ?_, fun k hk => ?_⟩
  · have old : (T2.ownBlock = some k ∨ N2.ownBlock = some k) ∨ w.heap.size ≤ k := by
      rcases hk with e | e
      · rcases hf.movT k e with r | r
        · exact .inl (.inl r)
        · exact .inr r
      · rcases hf.movN k e with r | r
        · exact .inl (.inr r)
        · exact .inr r
    rcases old with o | o
    · exact h.ap k o
    · exact ⟨fun e => by have := h.bk.tn.lt k e; omega, fun e => by have := h.bk.nn.lt k e; omega⟩
  · rcases hf.movT k hk with r | r
    · exact h.loT2 k r
    · exact Nat.le_trans h.lo.2.2.2.2 r
  · rcases hf.movN k hk with r | r
    · exact h.loN2 k r
    · exact Nat.le_trans h.lo.2.2.2.2 r
/-- A box of another type is not touched by either. -/
theorem BFr.other {x : Nat} {C : Array Value} {t : TypeId} (h : BInv w p g b T N D ts ns) (hf : BFr w w' g b T N T' N') (h1 : t ≠ 9) (h2 : t ≠ 96) (hx : w.heap[x]? = some (.cells C t (0, 0))) : w'.heap[x]? = some (.cells C t (0, 0)) := by
  have hq : x ≠ g := by intro e; rw [e, h.hg] at hx; simp at hx; exact h2 hx.2.symm
  have hb : x ≠ b := by intro e; obtain ⟨es, c, hb⟩ := h.bmap; rw [e, hb] at hx; simp at hx
  exact (hf.block x (lt_of_block hx) hq hb (h.tn.ne hx h1) (h.nn.ne hx h1)).trans hx
theorem termF_fine {s : ByteArray} {n er : Int} (hF : Fine ts ns) (h : termF ts ns s = (n, er, ts')) : Fine ts' ns := by
  unfold termF at h
  split at h
  · simp at h; rw [← h.2.2]; exact hF
  · rename_i ht
    split at h
    · simp at h; rw [← h.2.2]; exact hF
    · simp at h; rw [← h.2.2]; exact hF
    · rename_i hf
      split at h
      · simp at h; rw [← h.2.2]; exact hF
      · simp at h; rw [← h.2.2]; exact hF.term hf (by simpa using ht)
theorem nonF_fine {s : ByteArray} {n er : Int} (hF : Fine ts ns) (h : nonF ts ns s = (n, er, ns')) : Fine ts ns' := by
  unfold nonF at h
  split at h
  · simp at h; rw [← h.2.2]; exact hF
  · rename_i ht
    split at h
    · simp at h; rw [← h.2.2]; exact hF
    · simp at h; rw [← h.2.2]; exact hF
    · rename_i hf
      split at h
      · simp at h; rw [← h.2.2]; exact hF
      · simp at h; rw [← h.2.2]; exact hF.non hf (by simpa using ht)
theorem Fine.apart (hF : Fine ts ns) : ∀ s i, placeS ns s = some i → placeS ts s = none := fun s i h => by
  obtain ⟨hi, e⟩ := placeS_spec h
  rw [placeS_notMem]
  intro hm
  exact (List.nodup_append.1 hF.nd).2.2 s hm s (by rw [← e]; simp [List.getD, hi]) rfl
end
theorem refTerm_at {w : World} {q : Nat} {T N : Value} {ts ns : List ByteArray} {n er : Int} {ts' : List ByteArray} (h : RB w q T N ts ns) (s : ByteArray) (hs : s.size ≤ 9223372036854775807) (hF : termF ts ns s = (n, er, ts')) :
    Calls Try.prog 34 #[.pointer (some ⟨q, 0, none⟩), .string s] w fun e w' => e = .returned (.tuple #[.int .i64 n, .int .i64 er]) ∧ ∃ T', RB w' q T' N ts' ns ∧ BFr w w' q q T N T' N := by
  refine (refTerm_any h s hs).mono fun e w' ⟨n1, er1, he, T', e1, e2, h1, h2⟩ => ?_
  rw [hF] at e1 e2 h1
  simp only at e1 e2
  subst e1 e2
  exact ⟨he, T', h1, h2⟩
theorem refNon_at {w : World} {q : Nat} {T N : Value} {ts ns : List ByteArray} {n er : Int} {ns' : List ByteArray} (h : RB w q T N ts ns) (hap : ∀ s i, placeS ns s = some i → placeS ts s = none) (s : ByteArray) (hs : s.size ≤ 9223372036854775807) (hF : nonF ts ns s = (n, er, ns')) :
    Calls Try.prog 35 #[.pointer (some ⟨q, 0, none⟩), .string s] w fun e w' => e = .returned (.tuple #[.int .i64 n, .int .i64 er]) ∧ ∃ N', RB w' q T N' ts ns' ∧ BFr w w' q q T N T N' := by
  refine (refNon_any h hap s hs).mono fun e w' ⟨n1, er1, he, T', e1, e2, h1, h2⟩ => ?_
  rw [hF] at e1 e2 h1
  simp only at e1 e2
  subst e1 e2
  exact ⟨he, T', h1, h2⟩
end Go.Proofs.Ytnhfnihdikammab
