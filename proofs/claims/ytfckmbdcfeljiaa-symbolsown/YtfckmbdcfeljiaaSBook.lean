import Derived.Test.YtfckmbdcfeljiaaSNum
namespace Go.Proofs.Ytfckmbdcfeljiaa
set_option linter.unusedVariables false
open Go.RowKit Go.Maps

/-- What a book of these names says of a name. -/
def findS (ts ns : List ByteArray) (s : ByteArray) : Option (Int × Int) :=
  match placeS ts s with
  | some i => some (1, (i : Int))
  | none => match placeS ns s with
    | some i => some (2, (i : Int))
    | none => none
theorem findS_none {ts ns : List ByteArray} {s : ByteArray} : findS ts ns s = none ↔ placeS ts s = none ∧ placeS ns s = none := by
  unfold findS
  cases h1 : placeS ts s <;> cases h2 : placeS ns s <;> simp
theorem findS_term {ts ns : List ByteArray} {s : ByteArray} (h : findS ts ns s = none) : findS (ts ++ [s]) ns = upd (findS ts ns) s (some (1, ts.length)) := by
  funext t
  obtain ⟨h1, h2⟩ := findS_none.1 h
  by_cases e : t = s
  · subst e; simp [upd, findS, placeS_snoc, h1]
  · have e' : ¬ s = t := fun q => e q.symm
    simp only [upd, if_neg e, findS, placeS_snoc, if_neg e']
    cases placeS ts t <;> rfl
theorem findS_non {ts ns : List ByteArray} {s : ByteArray} (h : findS ts ns s = none) : findS ts (ns ++ [s]) = upd (findS ts ns) s (some (2, ns.length)) := by
  funext t
  obtain ⟨h1, h2⟩ := findS_none.1 h
  by_cases e : t = s
  · subst e; simp [upd, findS, placeS_snoc, h1, h2]
  · have e' : ¬ s = t := fun q => e q.symm
    simp only [upd, if_neg e, findS, placeS_snoc, if_neg e']
    cases placeS ts t with
    | some i => rfl
    | none => cases placeS ns t <;> rfl
/-- A book: its block p leads to the pages at g; the map at b and the two lists of names. -/
structure BInv (w : World) (p g b : Nat) (T N : Value) (D : DataW Unit) (ts ns : List ByteArray) : Prop where
  hp : w.heap[p]? = some (.cells #[.pointer (some ⟨g, 0, none⟩)] 55 (0, 0))
  hg : w.heap[g]? = some (.cells #[.map (some b), .int .i64 1, .int .i64 64, .int .i64 31, T, .int .i64 2, .int .i64 64, .int .i64 32, N] 68 (0, 0))
  own : w.ownsMap Try.prog 9 symElem b (Maps.size D) D
  look : MInv D (findS ts ns)
  tn : GS w T ts
  nn : GS w N ns
  apart : ∀ k, T.ownBlock = some k → N.ownBlock ≠ some k
  tl : ts.length ≤ 64
  nl : ns.length ≤ 64
  sz : Maps.size D = ts.length + ns.length
/-- What a call of a book may have turned. -/
structure BFr (w w' : World) (g b : Nat) (T N T' N' : Value) : Prop where
  os : w'.os = w.os
  tape : w'.tape = w.tape
  output : w'.output = w.output
  size : w.heap.size ≤ w'.heap.size
  block : ∀ k, k < w.heap.size → k ≠ g → k ≠ b → some k ≠ T.ownBlock → some k ≠ N.ownBlock → w'.heap[k]? = w.heap[k]?
  movT : ∀ k, T'.ownBlock = some k → T.ownBlock = some k ∨ w.heap.size ≤ k
  movN : ∀ k, N'.ownBlock = some k → N.ownBlock = some k ∨ w.heap.size ≤ k
theorem BFr.ofBelow {w w' : World} (h : Below w.heap.size w w') (g b : Nat) (T N : Value) : BFr w w' g b T N T N := ⟨h.os, h.tape, h.output, h.size, fun k hk _ _ _ _ => h.block k hk, fun _ e => .inl e, fun _ e => .inl e⟩
theorem BFr.refl (w : World) (g b : Nat) (T N : Value) : BFr w w g b T N T N := BFr.ofBelow (Below.refl _ _) g b T N
theorem BFr.trans {w w1 w2 : World} {g b : Nat} {T N T1 N1 T2 N2 : Value} (h : BFr w w1 g b T N T1 N1) (k : BFr w1 w2 g b T1 N1 T2 N2) : BFr w w2 g b T N T2 N2 := by
  refine ⟨k.os.trans h.os, k.tape.trans h.tape, k.output.trans h.output, Nat.le_trans h.size k.size, fun i hi hg hb hT hN => ?_, fun i hi => ?_, fun i hi => ?_⟩
  · refine (k.block i (Nat.lt_of_lt_of_le hi h.size) hg hb (fun e => ?_) (fun e => ?_)).trans (h.block i hi hg hb hT hN)
    · rcases h.movT i e.symm with q | q
      · exact hT q.symm
      · omega
    · rcases h.movN i e.symm with q | q
      · exact hN q.symm
      · omega
  · rcases k.movT i hi with q | q
    · exact h.movT i q
    · exact .inr (Nat.le_trans h.size q)
  · rcases k.movN i hi with q | q
    · exact h.movN i q
    · exact .inr (Nat.le_trans h.size q)
theorem BFr.below {w w' : World} {g b B : Nat} {T N T' N' : Value} (h : BFr w w' g b T N T' N') (hB : B ≤ w.heap.size) (hg : B ≤ g) (hb : B ≤ b) (hT : ∀ k, T.ownBlock = some k → B ≤ k) (hN : ∀ k, N.ownBlock = some k → B ≤ k) : Below B w w' :=
  ⟨h.os, h.tape, h.output, h.size, fun k hk => h.block k (by omega) (by omega) (by omega) (fun e => by have := hT k e.symm; omega) (fun e => by have := hN k e.symm; omega)⟩
section
variable {w w' : World} {p g b : Nat} {T N : Value} {D : DataW Unit} {ts ns : List ByteArray}
theorem ownsMap_kept {n : Nat} (h : w.ownsMap Try.prog 9 symElem b n D) (e : w'.heap[b]? = w.heap[b]?) : w'.ownsMap Try.prog 9 symElem b n D := by
  obtain ⟨es, cl, hb, r⟩ := h
  exact ⟨es, cl, e.trans hb, r⟩
theorem BInv.later (h : BInv w p g b T N D ts ns) (hb : Below w.heap.size w w') : BInv w' p g b T N D ts ns :=
  ⟨(hb.block p (lt_of_block h.hp)).trans h.hp, (hb.block g (lt_of_block h.hg)).trans h.hg, ownsMap_kept h.own (hb.block b h.own.lt), h.look, h.tn.later hb, h.nn.later hb, h.apart, h.tl, h.nl, h.sz⟩
theorem BInv.pg (h : BInv w p g b T N D ts ns) : p ≠ g := by intro e; have h1 := h.hp; rw [e, h.hg] at h1; simp at h1
theorem BInv.bmap (h : BInv w p g b T N D ts ns) : ∃ es c, w.heap[b]? = some (.map es c) := by obtain ⟨es, cl, hb, _⟩ := h.own; exact ⟨es, cl, hb⟩
theorem BInv.bg (h : BInv w p g b T N D ts ns) : b ≠ g := by intro e; obtain ⟨es, c, hb⟩ := h.bmap; rw [e, h.hg] at hb; simp at hb
theorem BInv.bp (h : BInv w p g b T N D ts ns) : b ≠ p := by intro e; obtain ⟨es, c, hb⟩ := h.bmap; rw [e, h.hp] at hb; simp at hb
theorem BInv.termAt (h : BInv w p g b T N D ts ns) : PAt w g b 1 1 31 T ts D (findS ts ns) #[.map (some b), .int .i64 1, .int .i64 64, .int .i64 31, T, .int .i64 2, .int .i64 64, .int .i64 32, N] :=
  ⟨h.hg, rfl, rfl, rfl, rfl, rfl, h.own, h.look, h.tn⟩
theorem BInv.nonAt (h : BInv w p g b T N D ts ns) : PAt w g b 5 2 32 N ns D (findS ts ns) #[.map (some b), .int .i64 1, .int .i64 64, .int .i64 31, T, .int .i64 2, .int .i64 64, .int .i64 32, N] :=
  ⟨h.hg, rfl, rfl, rfl, rfl, rfl, h.own, h.look, h.nn⟩
theorem size_new {s : ByteArray} {d : DataW Unit} (h : MInv D (findS ts ns)) (hf : findS ts ns s = none) : Maps.size (D.put (keyL s) d) = Maps.size D + 1 := by
  rw [size_put h.tidy, h.has_ s, hf]; rfl
theorem BInv.newTerm {s : ByteArray} {T' : Value} {C : Array Value} (h : BInv w p g b T N D ts ns) (hC : C = #[.map (some b), .int .i64 1, .int .i64 64, .int .i64 31, T, .int .i64 2, .int .i64 64, .int .i64 32, N]) (k : PNew w w' g b 1 T T' ts D (findS ts ns) C s 1) (hf : findS ts ns s = none) (hl : ts.length < 64) :
    BInv w' p g b T' N (D.put (keyL s) (symD 1 ts.length)) (ts ++ [s]) ns ∧ BFr w w' g b T N T' N := by
  subst hC
  have hpT := h.tn.ne h.hp (by decide)
  have hN' : GS w' N ns := h.nn.kept fun q hq => k.block q (h.nn.lt q hq) (fun e => h.nn.ne h.hg (by decide) (by rw [hq, e])) (fun e => by obtain ⟨es, c, hb⟩ := h.bmap; exact h.nn.neMap hb (by rw [hq, e])) (fun e => h.apart q e.symm hq)
  refine ⟨⟨(k.block p (lt_of_block h.hp) h.pg h.bp.symm hpT).trans h.hp, k.hg, ?_, ?_, k.names, hN', fun q hq hn => ?_, by simp; omega, h.nl, by rw [size_new h.look hf, h.sz]; simp; omega⟩, ⟨k.os, k.tape, k.output, k.size, fun q hq h1 h2 h3 _ => k.block q hq h1 h2 h3, fun q hq => ?_, fun q hq => .inl hq⟩⟩
  · rw [size_new h.look hf]; exact k.own
  · rw [findS_term hf]; exact h.look.put s 1 ts.length
  · rcases k.moved with e | ⟨q', e, hq'⟩
    · exact h.apart q (by rw [← e]; exact hq) hn
    · rw [e] at hq
      have := h.nn.lt q hn
      simp at hq
      omega
  · rcases k.moved with e | ⟨q', e, hq'⟩
    · exact .inl (by rw [← e]; exact hq)
    · rw [e] at hq; simp at hq; exact .inr (by omega)
theorem BInv.newNon {s : ByteArray} {N' : Value} {C : Array Value} (h : BInv w p g b T N D ts ns) (hC : C = #[.map (some b), .int .i64 1, .int .i64 64, .int .i64 31, T, .int .i64 2, .int .i64 64, .int .i64 32, N]) (k : PNew w w' g b 5 N N' ns D (findS ts ns) C s 2) (hf : findS ts ns s = none) (hl : ns.length < 64) :
    BInv w' p g b T N' (D.put (keyL s) (symD 2 ns.length)) ts (ns ++ [s]) ∧ BFr w w' g b T N T N' := by
  subst hC
  have hpT := h.nn.ne h.hp (by decide)
  have hN' : GS w' T ts := h.tn.kept fun q hq => k.block q (h.tn.lt q hq) (fun e => h.tn.ne h.hg (by decide) (by rw [hq, e])) (fun e => by obtain ⟨es, c, hb⟩ := h.bmap; exact h.tn.neMap hb (by rw [hq, e])) (fun e => h.apart q hq e.symm)
  refine ⟨⟨(k.block p (lt_of_block h.hp) h.pg h.bp.symm hpT).trans h.hp, k.hg, ?_, ?_, hN', k.names, fun q hq hn => ?_, h.tl, by simp; omega, by rw [size_new h.look hf, h.sz]; simp; omega⟩, ⟨k.os, k.tape, k.output, k.size, fun q hq h1 h2 _ h3 => k.block q hq h1 h2 h3, fun q hq => .inl hq, fun q hq => ?_⟩⟩
  · rw [size_new h.look hf]; exact k.own
  · rw [findS_non hf]; exact h.look.put s 2 ns.length
  · rcases k.moved with e | ⟨q', e, hq'⟩
    · exact h.apart q hq (by rw [← e]; exact hn)
    · rw [e] at hn
      have := h.tn.lt q hq
      simp at hn
      omega
  · rcases k.moved with e | ⟨q', e, hq'⟩
    · exact .inl (by rw [← e]; exact hq)
    · rw [e] at hq; simp at hq; exact .inr (by omega)
end
end Go.Proofs.Ytfckmbdcfeljiaa
