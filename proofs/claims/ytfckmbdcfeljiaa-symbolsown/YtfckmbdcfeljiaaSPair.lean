import Derived.Test.YtfckmbdcfeljiaaSPlay
import Derived.Test.YtfckmbdcfeljiaaSWorks
namespace Go.Proofs.Ytfckmbdcfeljiaa
set_option linter.unusedVariables false
open Go.RowKit Go.Maps

theorem termF_prefix (ts ns : List ByteArray) (s : ByteArray) : ts <+: (termF ts ns s).2.2 := by
  unfold termF
  repeat' split
  all_goals first | exact List.prefix_rfl | exact List.prefix_append _ _
theorem nonF_prefix (ts ns : List ByteArray) (s : ByteArray) : ns <+: (nonF ts ns s).2.2 := by
  unfold nonF
  repeat' split
  all_goals first | exact List.prefix_rfl | exact List.prefix_append _ _
theorem step_prefix {q : List ByteArray × List ByteArray} {o : OpV} (h : o.kd = 0 ∨ o.kd = 1) : q.1 <+: (stepF q o).1 ∧ q.2 <+: (stepF q o).2 := by
  unfold stepF
  rcases h with h | h
  · rw [if_pos h]; exact ⟨termF_prefix _ _ _, List.prefix_rfl⟩
  · rw [if_neg (by omega), if_pos h]; exact ⟨List.prefix_rfl, nonF_prefix _ _ _⟩
theorem find_self {ts ns : List ByteArray} (h : Fine ts ns) {i : Nat} (hi : i < ts.length) : findS ts ns (ts.getD i ByteArray.empty) = some (1, (i : Int)) := by
  unfold findS
  rw [placeS_self (List.nodup_append.1 h.nd).1 hi]
/-- A book whose blocks lie from B on. -/
structure One (B : Nat) (w : World) (p g b : Nat) (T N : Value) (D : DataW Unit) (ts ns : List ByteArray) : Prop where
  bk : BInv w p g b T N D ts ns
  fine : Fine ts ns
  lo : B ≤ p ∧ B ≤ g ∧ B ≤ b ∧ B ≤ w.heap.size
  loT : ∀ k, T.ownBlock = some k → B ≤ k
  loN : ∀ k, N.ownBlock = some k → B ≤ k
section
variable {B : Nat} {w w' : World} {p g b : Nat} {T N T' N' : Value} {D D' : DataW Unit} {ts ns ts' ns' : List ByteArray}
theorem One.later (h : One B w p g b T N D ts ns) (hb : Below w.heap.size w w') : One B w' p g b T N D ts ns := ⟨h.bk.later hb, h.fine, ⟨h.lo.1, h.lo.2.1, h.lo.2.2.1, Nat.le_trans h.lo.2.2.2 hb.size⟩, h.loT, h.loN⟩
theorem One.step (h : One B w p g b T N D ts ns) (f : BFr w w' g b T N T' N') (hb : BInv w' p g b T' N' D' ts' ns') (hf : Fine ts' ns') : One B w' p g b T' N' D' ts' ns' :=
  ⟨hb, hf, ⟨h.lo.1, h.lo.2.1, h.lo.2.2.1, Nat.le_trans h.lo.2.2.2 f.size⟩, fun k hk => by
    rcases f.movT k hk with r | r
    · exact h.loT k r
    · exact Nat.le_trans h.lo.2.2.2 r, fun k hk => by
    rcases f.movN k hk with r | r
    · exact h.loN k r
    · exact Nat.le_trans h.lo.2.2.2 r⟩
theorem One.below (h : One B w p g b T N D ts ns) (f : BFr w w' g b T N T' N') : Below B w w' := f.below h.lo.2.2.2 h.lo.2.1 h.lo.2.2.1 h.loT h.loN
theorem One.new {w0 : World} (h1 : Below B w0 w) (hB : B ≤ w.heap.size) (h2 : BInv w' p g b (.slice none 0 0) (.slice none 0 0) D [] []) (hp : w.heap.size ≤ p) (hg : w.heap.size ≤ g) (hb : w.heap.size ≤ b) (h3 : Below w.heap.size w w') : One B w' p g b (.slice none 0 0) (.slice none 0 0) D [] [] ∧ Below B w0 w' :=
  ⟨⟨h2, Fine.nil, ⟨by omega, by omega, by omega, Nat.le_trans hB h3.size⟩, fun k hk => by simp [Value.ownBlock] at hk, fun k hk => by simp [Value.ownBlock] at hk⟩, h1.trans (h3.mono hB)⟩
/-- What came in lies below. -/
theorem One.ops {w0 : World} {ao : Option Addr} {l : List OpV} (h : One B w p g b T N D ts ns) (hb : Below B w0 w) (hB : w0.heap.size ≤ B) (ho : OpsAt w0 ao l) : OpsAp w g b T N ao l := by
  have ap : ∀ k, k < B → Apart w g b T N k := fun k hk => by
    obtain ⟨l1, l2, l3, l4⟩ := h.lo
    exact ⟨by omega, by omega, by omega, fun e => by have := h.loT k e.symm; omega, fun e => by have := h.loN k e.symm; omega⟩
  refine ⟨⟨ho.1, fun hne => ?_⟩, fun bb off e hne => ?_⟩
  · obtain ⟨bb, off, rfl, hbl, hc⟩ := ho.2 hne
    have e : ∀ i, w.cell? ⟨bb, i, none⟩ = w0.cell? ⟨bb, i, none⟩ := fun i => by simp [World.cell?, hb.block bb (by omega)]
    refine ⟨bb, off, rfl, (ap bb (by omega)).1, fun i hi => ?_⟩
    rw [e, e, e, e, e, e]
    exact hc i hi
  · obtain ⟨bb', off', e', hbl, _⟩ := ho.2 hne
    rw [e] at e'
    simp at e'
    exact ap bb (by omega)
/-- A list of texts that the book does not touch. -/
def GSA (w : World) (g b : Nat) (T N : Value) (v : Value) (ss : List ByteArray) : Prop := GS w v ss ∧ ∀ k, v.ownBlock = some k → Apart w g b T N k
theorem GSA.step {v : Value} {ss : List ByteArray} (h : GSA w g b T N v ss) (f : BFr w w' g b T N T' N') : GSA w' g b T' N' v ss := ⟨h.1.kept fun k hk => ((h.2 k hk).step f).2, fun k hk => ((h.2 k hk).step f).1⟩
theorem GSA.later {v : Value} {ss : List ByteArray} (h : GSA w g b T N v ss) (hb : Below w.heap.size w w') : GSA w' g b T N v ss := h.step (BFr.ofBelow hb g b T N)
theorem GSA.new {v : Value} {ss : List ByteArray} (h : BInv w p g b T N D ts ns) (hv : GS w' v ss) (h1 : ∀ k, v.ownBlock = some k → w.heap.size ≤ k) (hb : Below w.heap.size w w') : GSA w' g b T N v ss := ⟨hv, fun k hk => h.fresh hb (h1 k hk) (hv.lt k hk)⟩
theorem GSA.row {a : Option Addr} {n c : Nat} {ss : List ByteArray} (h : GSA w g b T N (.slice a n c) ss) : n = ss.length ∧ StrRow w a ss ∧ ss.length ≤ c := by
  obtain ⟨a', c', e, hr, _, hc⟩ := h.1.row
  simp only [Value.slice.injEq] at e
  obtain ⟨rfl, rfl, rfl⟩ := e
  exact ⟨rfl, hr, hc⟩
/-- The one call that is laid for it. -/
theorem ops_one (h : BInv w p g b T N D ts ns) (o : OpV) (hs : o.s.size ≤ maxLen) : OpsAp (w.alloc (.cells #[.int .i64 o.kd, .string o.s, .int .i64 o.k, .int .i64 o.n, .int .i64 o.x, .int .i64 o.y] 74)) g b T N (some ⟨w.heap.size, 0, none⟩) [o] := by
  have hb := below_alloc w (.cells #[.int .i64 o.kd, .string o.s, .int .i64 o.k, .int .i64 o.n, .int .i64 o.x, .int .i64 o.y] 74)
  have hn := heap_alloc_new w (.cells #[.int .i64 o.kd, .string o.s, .int .i64 o.k, .int .i64 o.n, .int .i64 o.x, .int .i64 o.y] 74)
  have hlt := lt_of_block hn
  refine ⟨⟨fun x hx => by simp at hx; subst hx; exact hs, fun _ => ⟨_, _, rfl, hlt, fun i hi => ?_⟩⟩, fun bb off e _ => ?_⟩
  · have : i = 0 := by simp at hi; omega
    subst this
    simp only [Nat.zero_mul, Nat.zero_add, Nat.add_zero]
    exact ⟨by rw [cellq_any hn]; rfl, by rw [cellq_any hn]; rfl, by rw [cellq_any hn]; rfl, by rw [cellq_any hn]; rfl, by rw [cellq_any hn]; rfl, by rw [cellq_any hn]; rfl⟩
  · simp at e
    obtain ⟨rfl, _⟩ := e
    exact h.fresh hb (Nat.le_refl _) hlt
/-- A book's blocks. -/
def blk (p g b : Nat) (T N : Value) (k : Nat) : Prop := k = p ∨ k = g ∨ k = b ∨ T.ownBlock = some k ∨ N.ownBlock = some k
theorem BInv.blkLt (h : BInv w p g b T N D ts ns) {k : Nat} (hk : blk p g b T N k) : k < w.heap.size := by
  rcases hk with rfl | rfl | rfl | e | e
  · exact lt_of_block h.hp
  · exact lt_of_block h.hg
  · obtain ⟨es, c, q⟩ := h.bmap; exact lt_of_block q
  · exact h.tn.lt k e
  · exact h.nn.lt k e
theorem BInv.keptBlk (h : BInv w p g b T N D ts ns) (hk : ∀ k, blk p g b T N k → w'.heap[k]? = w.heap[k]?) : BInv w' p g b T N D ts ns :=
  ⟨(hk p (.inl rfl)).trans h.hp, (hk g (.inr (.inl rfl))).trans h.hg, ownsMap_kept h.own (hk b (.inr (.inr (.inl rfl)))), h.look, h.tn.kept fun k e => hk k (.inr (.inr (.inr (.inl e)))), h.nn.kept fun k e => hk k (.inr (.inr (.inr (.inr e)))), h.apart, h.tl, h.nl, h.sz⟩
end
/-- Two books that share no block. -/
structure Pr (B : Nat) (w : World) (p g b : Nat) (T N : Value) (D : DataW Unit) (q1 : List ByteArray × List ByteArray) (p2 g2 b2 : Nat) (T2 N2 : Value) (D2 : DataW Unit) (q2 : List ByteArray × List ByteArray) : Prop where
  a : One B w p g b T N D q1.1 q1.2
  c : One B w p2 g2 b2 T2 N2 D2 q2.1 q2.2
  ac : ∀ k, blk p2 g2 b2 T2 N2 k → Apart w g b T N k
  ca : ∀ k, blk p g b T N k → Apart w g2 b2 T2 N2 k
section
variable {B : Nat} {w w' : World} {p g b p2 g2 b2 : Nat} {T N T2 N2 T' N' : Value} {D D2 D' : DataW Unit} {q1 q2 q' : List ByteArray × List ByteArray}
theorem Pr.swap (h : Pr B w p g b T N D q1 p2 g2 b2 T2 N2 D2 q2) : Pr B w p2 g2 b2 T2 N2 D2 q2 p g b T N D q1 := ⟨h.c, h.a, h.ca, h.ac⟩
theorem Pr.later (h : Pr B w p g b T N D q1 p2 g2 b2 T2 N2 D2 q2) (hb : Below w.heap.size w w') : Pr B w' p g b T N D q1 p2 g2 b2 T2 N2 D2 q2 := ⟨h.a.later hb, h.c.later hb, fun k hk => (h.ac k hk).later hb, fun k hk => (h.ca k hk).later hb⟩
theorem Pr.step (h : Pr B w p g b T N D q1 p2 g2 b2 T2 N2 D2 q2) (f : BFr w w' g b T N T' N') (hb : BInv w' p g b T' N' D' q'.1 q'.2) (hf : Fine q'.1 q'.2) : Pr B w' p g b T' N' D' q' p2 g2 b2 T2 N2 D2 q2 := by
  have kc : BInv w' p2 g2 b2 T2 N2 D2 q2.1 q2.2 := h.c.bk.keptBlk fun k hk => ((h.ac k hk).step f).2
  refine ⟨h.a.step f hb hf, ⟨kc, h.c.fine, ⟨h.c.lo.1, h.c.lo.2.1, h.c.lo.2.2.1, Nat.le_trans h.c.lo.2.2.2 f.size⟩, h.c.loT, h.c.loN⟩, fun k hk => ((h.ac k hk).step f).1, fun k hk => ?_⟩
  have old : blk p g b T N k ∨ w.heap.size ≤ k := by
    rcases hk with e | e | e | e | e
    · exact .inl (.inl e)
    · exact .inl (.inr (.inl e))
    · exact .inl (.inr (.inr (.inl e)))
    · rcases f.movT k e with r | r
      · exact .inl (.inr (.inr (.inr (.inl r))))
      · exact .inr r
    · rcases f.movN k e with r | r
      · exact .inl (.inr (.inr (.inr (.inr r))))
      · exact .inr r
  have hlt := hb.blkLt hk
  rcases old with o | o
  · obtain ⟨_, r⟩ := h.ca k o
    exact ⟨hlt, r⟩
  · have no : ∀ j, blk p2 g2 b2 T2 N2 j → k ≠ j := fun j hj e => by have := h.c.bk.blkLt hj; omega
    exact ⟨hlt, no _ (.inr (.inl rfl)), no _ (.inr (.inr (.inl rfl))), fun e => no k (.inr (.inr (.inr (.inl e.symm)))) rfl, fun e => no k (.inr (.inr (.inr (.inr e.symm)))) rfl⟩
theorem Pr.new (h : One B w p g b T N D q1.1 q1.2) (h2 : BInv w' p2 g2 b2 (.slice none 0 0) (.slice none 0 0) D2 [] []) (hp : w.heap.size ≤ p2) (hg : w.heap.size ≤ g2) (hb : w.heap.size ≤ b2) (h3 : Below w.heap.size w w') : Pr B w' p g b T N D q1 p2 g2 b2 (.slice none 0 0) (.slice none 0 0) D2 ([], []) := by
  have nb : ∀ k, (Value.slice none 0 0).ownBlock = some k → False := fun k hk => by simp [Value.ownBlock] at hk
  refine ⟨h.later h3, (One.new (w0 := w) (Below.refl _ _) h.lo.2.2.2 h2 hp hg hb h3).1, fun k hk => ?_, fun k hk => ?_⟩
  · have hlt := h2.blkLt hk
    refine h.bk.fresh h3 ?_ hlt
    rcases hk with rfl | rfl | rfl | e | e
    · exact hp
    · exact hg
    · exact hb
    · exact (nb k e).elim
    · exact (nb k e).elim
  · have := h.bk.blkLt hk
    exact ⟨Nat.lt_of_lt_of_le this h3.size, by omega, by omega, fun e => nb k e.symm, fun e => nb k e.symm⟩
end
theorem play_one {B : Nat} {w : World} {p g b : Nat} {T N : Value} {D : DataW Unit} {ts ns ts' ns' : List ByteArray} (h : One B w p g b T N D ts ns) (ao : Option Addr) (cap : Nat) (l : List OpV) (hl : l.length ≤ 140737488355328) (ho : OpsAp w g b T N ao l) (hq : playF (ts, ns) l = (ts', ns')) :
    Calls Try.prog 6 #[.pointer (some ⟨p, 0, none⟩), .slice ao l.length cap] w fun e w' => e = .returned (.tuple #[]) ∧ ∃ T' N' D', One B w' p g b T' N' D' ts' ns' ∧ BFr w w' g b T N T' N' := by
  refine (play_any h.bk h.fine ao l.length cap l rfl hl ho).mono fun e w' ⟨he, T', N', D', h1, h2⟩ => ⟨he, T', N', D', ?_, h2⟩
  rw [hq] at h1
  have hf := playF_fine (q := (ts, ns)) h.fine l
  rw [hq] at hf
  exact h.step h2 h1 hf
theorem play_pr {B : Nat} {w : World} {p g b p2 g2 b2 : Nat} {T N T2 N2 : Value} {D D2 : DataW Unit} {q1 q2 q' : List ByteArray × List ByteArray} (h : Pr B w p g b T N D q1 p2 g2 b2 T2 N2 D2 q2) (ao : Option Addr) (cap : Nat) (l : List OpV) (hl : l.length ≤ 140737488355328) (ho : OpsAp w g b T N ao l) (hq : playF q1 l = q') :
    Calls Try.prog 6 #[.pointer (some ⟨p, 0, none⟩), .slice ao l.length cap] w fun e w' => e = .returned (.tuple #[]) ∧ ∃ T' N' D', Pr B w' p g b T' N' D' q' p2 g2 b2 T2 N2 D2 q2 ∧ Below B w w' := by
  refine (play_any h.a.bk h.a.fine ao l.length cap l rfl hl ho).mono fun e w' ⟨he, T', N', D', h1, h2⟩ => ⟨he, T', N', D', ?_, h.a.below h2⟩
  have hf := playF_fine (q := q1) h.a.fine l
  rw [hq] at h1 hf
  exact h.step h2 h1 hf
theorem terms_at {w : World} {p g b : Nat} {T N : Value} {D : DataW Unit} {ts ns : List ByteArray} (h : BInv w p g b T N D ts ns) :
    Calls Try.prog 10 #[.pointer (some ⟨p, 0, none⟩)] w fun e w' => ∃ a c, e = .returned (.slice a ts.length c) ∧ GSA w' g b T N (.slice a ts.length c) ts ∧ Below w.heap.size w w' := by
  refine (terms_any h).mono fun e w' ⟨a, n, c, he, hg, hf, hb⟩ => ?_
  have hA := GSA.new h hg hf hb
  obtain ⟨rfl, _, _⟩ := hA.row
  exact ⟨a, c, he, hA, hb⟩
theorem nons_at {w : World} {p g b : Nat} {T N : Value} {D : DataW Unit} {ts ns : List ByteArray} (h : BInv w p g b T N D ts ns) :
    Calls Try.prog 11 #[.pointer (some ⟨p, 0, none⟩)] w fun e w' => ∃ a c, e = .returned (.slice a ns.length c) ∧ GSA w' g b T N (.slice a ns.length c) ns ∧ Below w.heap.size w w' := by
  refine (nons_any h).mono fun e w' ⟨a, n, c, he, hg, hf, hb⟩ => ?_
  have hA := GSA.new h hg hf hb
  obtain ⟨rfl, _, _⟩ := hA.row
  exact ⟨a, c, he, hA, hb⟩
end Go.Proofs.Ytfckmbdcfeljiaa
