import Derived.Test.YtlkkllehaabebabPBBaseToGRow
namespace Go.Proofs.Ytlkkllehaabebab
set_option linter.unusedVariables false
set_option maxRecDepth 100000
set_option maxHeartbeats 16000000
open Go.RowKit Go.Maps
def GL (w : World) (v : Value) (ss : List Value) : Prop := w.ownsRow 0 22 1 v ss.length ss
theorem GL.kept {w w' : World} {v : Value} {ss : List Value} (h : GL w v ss) (hb : ∀ k, v.ownBlock = some k -> w'.heap[k]? = w.heap[k]?) : GL w' v ss := by
 refine ⟨h.1, ?_⟩
 rcases h.2 with q | ⟨g, cap, cur, rfl, h1, h2, h3⟩
 ·exact .inl q
 ·exact .inr ⟨g, cap, cur, rfl, h1, (hb g rfl).trans h2, h3⟩
theorem GL.lt {w : World} {v : Value} {ss : List Value} (h : GL w v ss) : ∀ k, v.ownBlock = some k -> k < w.heap.size := fun k hk => (World.ownsRow.lt h k hk).2
theorem GL.later {w w' : World} {v : Value} {ss : List Value} (h : GL w v ss) (hb : Below w.heap.size w w') : GL w' v ss := h.kept fun k hk => hb.block k (h.lt k hk)
theorem GL.ne {w : World} {v : Value} {ss : List Value} (h : GL w v ss) {b : Nat} {C : Array Value} {t : TypeId} (hb : w.heap[b]? = some (.cells C t (0, 0))) (ht : t ≠ 22) : some b ≠ v.ownBlock := by
 intro e
 rcases h.2 with ⟨rfl, _⟩ | ⟨g, cap, cur, rfl, _, hg, _⟩
 ·simp [Value.ownBlock] at e
 ·simp [Value.ownBlock] at e
  subst e
  rw [hb] at hg; simp at hg; exact ht hg.2
theorem GL.nil (w : World) : GL w (.slice none 0 0) [] := World.ownsRow_nil w 0 22 1
structure Full (w : World) (g : Nat) (zs : List ByteArray) : Prop where
 hg : w.heap[g]? = some (.cells (zs.map Value.string).toArray 9 (0, 0))
 by_ : ∀ s ∈ zs, s.size <= maxLen
theorem Full.cell {w : World} {g : Nat} {zs : List ByteArray} (h : Full w g zs) (j : Nat) (hj : j < zs.length) : w.cell? ⟨g, j, none⟩ = some (.string (zs.getD j ByteArray.empty)) := by
 simp [World.cell?, h.hg, List.getD, hj]
theorem Full.free {w : World} {g : Nat} {zs : List ByteArray} (h : Full w g zs) (j : Nat) : w.frozen? ⟨g, j, none⟩ = false := by
 simp [World.frozen?, h.hg]
theorem Full.set {w : World} {g : Nat} {zs : List ByteArray} (h : Full w g zs) (j : Nat) (m : ByteArray) (h1 : m.size <= maxLen) : Full (w.setCell ⟨g, j, none⟩ (.string m)) g (zs.set j m) := by
 refine ⟨?_, fun x hx => ?_⟩
 ·rw [heap_set h.hg]
  congr 2
  simp [List.map_set]
 ·rcases List.mem_or_eq_of_mem_set hx with q | q
  ·exact h.by_ x q
  ·subst q; exact h1
theorem Full.row {w : World} {g : Nat} {zs : List ByteArray} (h : Full w g zs) : StrRow w (some ⟨g, 0, none⟩) zs :=
 fun _ => ⟨g, 0, rfl, lt_of_block h.hg, fun i hi => by rw [Nat.zero_add]; exact h.cell i hi⟩
theorem Full.rowTake {w : World} {g : Nat} {zs xs : List ByteArray} (h : Full w g zs) (hx : zs.take xs.length = xs) : StrRow w (some ⟨g, 0, none⟩) xs := by
 refine fun _ => ⟨g, 0, rfl, lt_of_block h.hg, fun i hi => ?_⟩
 have hz : i < zs.length := by have := congrArg List.length hx; simp at this; omega
 rw [Nat.zero_add, h.cell i hz]
 have : xs.getD i ByteArray.empty = zs.getD i ByteArray.empty := by rw [<- hx]; simp [List.getD, hi]
 rw [this]
theorem Full.later {w w' : World} {g : Nat} {zs : List ByteArray} (h : Full w g zs) (hb : w'.heap[g]? = w.heap[g]?) : Full w' g zs := ⟨hb.trans h.hg, h.by_⟩
structure GE where
 g : Nat
 N : Nat
 a : Option Addr
 M : Nat
 c : Nat
 zs : List ByteArray
def GE.fst (e : GE) : Value := .slice (some ⟨e.g, 0, none⟩) e.N e.N
def GE.snd (e : GE) : Value := .slice e.a e.M e.c
structure GE.At (w : World) (e : GE) : Prop where
 n : e.N = e.zs.length
 m : e.M = e.zs.length
 lim : e.zs.length <= 8796093022208
 full : Full w e.g e.zs
 own : GS w (.slice e.a e.M e.c) e.zs
theorem GE.At.later {w w' : World} {e : GE} (h : e.At w) (hb : Below w.heap.size w w') : e.At w' :=
 ⟨h.n, h.m, h.lim, h.full.later (hb.block _ (lt_of_block h.full.hg)), h.own.later hb⟩
structure GF (w w' : World) (q : Nat) (L W L' W' : Value) : Prop where
 os : w'.os = w.os
 tape : w'.tape = w.tape
 output : w'.output = w.output
 size : w.heap.size <= w'.heap.size
 block : ∀ k, k < w.heap.size -> k ≠ q -> some k ≠ L.ownBlock -> some k ≠ W.ownBlock -> w'.heap[k]? = w.heap[k]?
 ml : L'.ownBlock = L.ownBlock ∨ ∃ k, L'.ownBlock = some k /\ w.heap.size <= k
 mw : W'.ownBlock = W.ownBlock ∨ ∃ k, W'.ownBlock = some k /\ w.heap.size <= k
theorem GF.trans {w w1 w2 : World} {q : Nat} {L W L1 W1 L2 W2 : Value} (h : GF w w1 q L W L1 W1) (k : GF w1 w2 q L1 W1 L2 W2) : GF w w2 q L W L2 W2 := by
 refine ⟨k.os.trans h.os, k.tape.trans h.tape, k.output.trans h.output, Nat.le_trans h.size k.size, fun z hz hq hl hw => ?_, ?_, ?_⟩
 ·refine (k.block z (Nat.lt_of_lt_of_le hz h.size) hq (fun e => ?_) (fun e => ?_)).trans (h.block z hz hq hl hw)
  ·rcases h.ml with q | ⟨m, q, hm⟩
   ·exact hl (e.trans q)
   ·rw [q] at e; have := Option.some.inj e; omega
  ·rcases h.mw with q | ⟨m, q, hm⟩
   ·exact hw (e.trans q)
   ·rw [q] at e; have := Option.some.inj e; omega
 ·rcases k.ml with e | ⟨m, e, hm⟩
  ·rw [e]; exact h.ml
  ·exact .inr ⟨m, e, Nat.le_trans h.size hm⟩
 ·rcases k.mw with e | ⟨m, e, hm⟩
  ·rw [e]; exact h.mw
  ·exact .inr ⟨m, e, Nat.le_trans h.size hm⟩
theorem GF.ofBelow {w w' : World} {q : Nat} {L W : Value} (h : Below w.heap.size w w') : GF w w' q L W L W := ⟨h.os, h.tape, h.output, h.size, fun k hk _ _ _ => h.block k hk, .inl rfl, .inl rfl⟩
theorem GF.below {w w' : World} {q B : Nat} {L W L' W' : Value} (h : GF w w' q L W L' W') (hB : B <= w.heap.size) (hq : B <= q) (hl : ∀ k, L.ownBlock = some k -> B <= k) (hw : ∀ k, W.ownBlock = some k -> B <= k) : Below B w w' :=
 ⟨h.os, h.tape, h.output, h.size, fun k hk => h.block k (by omega) (by omega) (fun e => by have := hl k e.symm; omega) (fun e => by have := hw k e.symm; omega)⟩
section
variable {w w' : World} {q : Nat} {L W L' W' : Value} {ss tt : List Value} {es : List GE}
end
end Go.Proofs.Ytlkkllehaabebab
