import Derived.Test.YtjpknihkcndoiaaGreatPBBaseToGRow
namespace Go.Proofs.YtjpknihkcndoiaaGreat
set_option linter.unusedVariables false
set_option maxRecDepth 100000
set_option maxHeartbeats 16000000
open Go.RowKit Go.Maps
theorem conv_mark (w : World) (x y : Int) (hx0 : 0 <= x) (hx1 : x <= 255) (hy0 : 0 <= y) (hy1 : y <= 255) : ∃ m : ByteArray, m.size <= 16 /\
  (convert 84 9 (.slice (some ⟨w.heap.size, 0, none⟩) 5 5)).run Tryz.prog (w.alloc (.cells #[.int .u8 219, .int .u8 3, .int .u8 x, .int .u8 y, .int .u8 77] 5)) = .ok (.string m) (w.alloc (.cells #[.int .u8 219, .int .u8 3, .int .u8 x, .int .u8 y, .int .u8 77] 5)) := by
 refine ⟨⟨[219, 3, UInt8.ofNat x.toNat, UInt8.ofNat y.toNat, 77].toArray⟩, by simp [ByteArray.size], ?_⟩
 refine run_convert_bytes_back (P := Tryz.prog) _ 84 9 5 ⟨w.heap.size, 0, none⟩ 5 [219, 3, UInt8.ofNat x.toNat, UInt8.ofNat y.toNat, 77] Tryz.underlying84 Tryz.underlying5 Tryz.underlying9 ?_
 have hh := heap_alloc_new w (.cells #[.int .u8 219, .int .u8 3, .int .u8 x, .int .u8 y, .int .u8 77] 5)
 intro j hj
 rw [add_none, cellq_any hh]
 match j, hj with
 | 0, _ => rfl
 | 1, _ => rfl
 | 2, _ => simp; omega
 | 3, _ => simp; omega
 | 4, _ => rfl
theorem markstr_any (k : Nat) (w : World) (hk : k <= 140737488355400) :
  Calls Tryz.prog 40 #[.int .i64 987, .int .i64 k] w fun e w' => ∃ m, e = .returned (.string m) /\ m.size <= 16 /\ Below w.heap.size w w' := by
 obtain ⟨m, hm, hrun⟩ := conv_mark w ((k : Int) % 256) ((k : Int) / 256 % 256) (by omega) (by omega) (by omega) (by omega)
 go_enter Tryz.func40, Tryz.ntmps40
 go_wp2
 go_ret
 exact ⟨m, rfl, hm, below_alloc w _⟩
theorem wpList_gs_copy {ops : Array Oper} {rest : List Oper} {o : Oper} {a : Act} {Q : Exit -> Act -> World -> Prop} {w : World} (hgd : o.guard = none) (s x : Operand)
  (ho : o.op = .call { callee := .builtin .append, args := #[s, x], argTypes := #[22, 22] })
  (hs : a.eval s = .slice none 0 0) (b off c : Nat) (zs : List ByteArray) (hx : a.eval x = .slice (some ⟨b, off, none⟩) zs.length c) (hr : StrRow w (some ⟨b, off, none⟩) zs) (hlen : zs.length <= 8796093022208)
  (hK : ∀ a' n' c' w', GS w' (.slice a' n' c') zs -> Grew w w' (.slice none 0 0) (.slice a' n' c') -> wpList Tryz.prog ops Q rest (a.put o.dst (.slice a' n' c')) w') : wpList Tryz.prog ops Q (o :: rest) a w := by
 obtain ⟨i0, hi, hz0, hz1, hz2⟩ := infoStr_parts
 refine wpList_append_own_at w hgd s x 22 ho 0 9 i0 (.string ⟨#[]⟩) 1 16 Tryz.underlying22 hi hz0 hz1 hz2 rfl (by decide) (.slice none 0 0) 0 [] hs (World.ownsRow_nil w 0 9 1) ⟨b, off, none⟩ zs.length c (zs.map Value.string) hx (by simp) ?_ ?_ (by unfold maxLen; omega) (by omega) (Nat.zero_le _) ?_
 ·intro j u hu
  have hj : j < zs.length := by have := (List.getElem?_eq_some_iff.1 hu).1; simpa using this
  obtain ⟨b', off', e, _, hc⟩ := hr (by intro h; subst h; simp at hj)
  simp at e
  obtain ⟨rfl, rfl⟩ := e
  rw [add_none, hc j hj, <- hu]
  simp [List.getD, hj]
 ·intro u hu; simp at hu; obtain ⟨y, _, rfl⟩ := hu; rfl
 ·intro v' w' h2 h3 _ h5
  have h6 : GS w' v' zs := by unfold GS; simpa using h2
  obtain ⟨a', c', rfl⟩ := gs_len h6
  exact hK _ _ _ w' h6 ⟨h3, h5.imp id fun e => ⟨_, e, Nat.le_refl _⟩⟩
theorem copystr_any (b off cap : Nat) (zs : List ByteArray) (w : World) (hl : zs.length <= 8796093022208) (hr : StrRow w (some ⟨b, off, none⟩) zs) :
  Calls Tryz.prog 41 #[.slice (some ⟨b, off, none⟩) zs.length cap] w fun e w' => ∃ a N c, e = .returned (.slice a N c) /\ GS w' (.slice a N c) zs /\ (∀ k, (Value.slice a N c).ownBlock = some k -> w.heap.size <= k) /\ Below w.heap.size w w' := by
 go_enter Tryz.func41, Tryz.ntmps41
 go_wp2_with (at_builtin; refine wpList_gs_copy rfl _ _ rfl rfl b off cap zs rfl hr hl ?_; intro a2 n2 c2 w2 ho2 hg2)
 go_ret
 refine ⟨a2, n2, c2, rfl, ho2, fun k hk => ?_, ⟨hg2.grown.os, hg2.grown.tape, hg2.grown.output, hg2.grown.size, fun k hk => hg2.grown.block k hk (by simp [Value.ownBlock])⟩⟩
 rcases hg2.moved with e | ⟨j, e, hj⟩
 ·rw [e] at hk; simp [Value.ownBlock] at hk
 ·rw [e] at hk; simp at hk; omega
def GL (w : World) (v : Value) (ss : List Value) : Prop := w.ownsRow 0 22 1 v ss.length ss
theorem GL.kept {w w' : World} {v : Value} {ss : List Value} (h : GL w v ss) (hb : ∀ k, v.ownBlock = some k -> w'.heap[k]? = w.heap[k]?) : GL w' v ss := by
 refine ⟨h.1, ?_⟩
 rcases h.2 with q | ⟨g, cap, cur, rfl, h1, h2, h3⟩
 ·exact .inl q
 ·exact .inr ⟨g, cap, cur, rfl, h1, (hb g rfl).trans h2, h3⟩
theorem GL.lt {w : World} {v : Value} {ss : List Value} (h : GL w v ss) : ∀ k, v.ownBlock = some k -> k < w.heap.size := fun k hk => (World.ownsRow.lt h k hk).2
theorem GL.later {w w' : World} {v : Value} {ss : List Value} (h : GL w v ss) (hb : Below w.heap.size w w') : GL w' v ss := h.kept fun k hk => hb.block k (h.lt k hk)
theorem GL.ne {w : World} {v : Value} {ss : List Value} (h : GL w v ss) {b : Nat} {C : Array Value} {t : TypeId} (hb : w.heap[b]? = some (.cells C t (0, 0))) (ht : t ≠ 22) : some b ≠ v.ownBlock := by
 intro e
 rcases h.2 with ⟨rfl, _⟩ | ⟨g, cap, cur, rfl, _, hg, _⟩
 ·simp [Value.ownBlock] at e
 ·simp [Value.ownBlock] at e
  subst e
  rw [hb] at hg; simp at hg; exact ht hg.2
theorem GL.nil (w : World) : GL w (.slice none 0 0) [] := World.ownsRow_nil w 0 22 1
structure Full (w : World) (g : Nat) (zs : List ByteArray) : Prop where
 hg : w.heap[g]? = some (.cells (zs.map Value.string).toArray 9 (0, 0))
 by_ : ∀ s ∈ zs, s.size <= maxLen
theorem Full.cell {w : World} {g : Nat} {zs : List ByteArray} (h : Full w g zs) (j : Nat) (hj : j < zs.length) : w.cell? ⟨g, j, none⟩ = some (.string (zs.getD j ByteArray.empty)) := by
 simp [World.cell?, h.hg, List.getD, hj]
theorem Full.free {w : World} {g : Nat} {zs : List ByteArray} (h : Full w g zs) (j : Nat) : w.frozen? ⟨g, j, none⟩ = false := by
 simp [World.frozen?, h.hg]
theorem Full.set {w : World} {g : Nat} {zs : List ByteArray} (h : Full w g zs) (j : Nat) (m : ByteArray) (h1 : m.size <= maxLen) : Full (w.setCell ⟨g, j, none⟩ (.string m)) g (zs.set j m) := by
 refine ⟨?_, fun x hx => ?_⟩
 ·rw [heap_set h.hg]
  congr 2
  simp [List.map_set]
 ·rcases List.mem_or_eq_of_mem_set hx with q | q
  ·exact h.by_ x q
  ·subst q; exact h1
theorem Full.row {w : World} {g : Nat} {zs : List ByteArray} (h : Full w g zs) : StrRow w (some ⟨g, 0, none⟩) zs :=
 fun _ => ⟨g, 0, rfl, lt_of_block h.hg, fun i hi => by rw [Nat.zero_add]; exact h.cell i hi⟩
theorem Full.rowTake {w : World} {g : Nat} {zs xs : List ByteArray} (h : Full w g zs) (hx : zs.take xs.length = xs) : StrRow w (some ⟨g, 0, none⟩) xs := by
 refine fun _ => ⟨g, 0, rfl, lt_of_block h.hg, fun i hi => ?_⟩
 have hz : i < zs.length := by have := congrArg List.length hx; simp at this; omega
 rw [Nat.zero_add, h.cell i hz]
 have : xs.getD i ByteArray.empty = zs.getD i ByteArray.empty := by rw [<- hx]; simp [List.getD, hi]
 rw [this]
theorem Full.later {w w' : World} {g : Nat} {zs : List ByteArray} (h : Full w g zs) (hb : w'.heap[g]? = w.heap[g]?) : Full w' g zs := ⟨hb.trans h.hg, h.by_⟩
theorem full_of_made {w : World} {g n : Nat} {vs : List Value} (h : w.ownsRow 0 9 1 (.slice (some ⟨g, 0, none⟩) n n) n vs) (hv : vs = (madeCells (Value.string ⟨#[]⟩).cells (n * 1)).toList) : ∃ zs : List ByteArray, zs.length = n /\ Full w g zs := by
 rcases h.2 with ⟨e, _⟩ | ⟨g', cap, cur, e, _, hg, _, _, hs, ht⟩
 ·cases e
 ·cases e
  refine ⟨List.replicate n ⟨#[]⟩, by simp, ⟨?_, fun x hx => ?_⟩⟩
  ·rw [hg]
   have hc : cur.toList = vs := by rw [<- ht, List.take_of_length_le (by simp; omega)]
   congr 2
   apply Array.toList_inj.1
   rw [hc, hv]
   apply List.ext_getElem
   ·simp [madeCells]
   ·intro k h1 h2
    simp [madeCells, Value.cells, Nat.mod_one]
  ·have := List.eq_of_mem_replicate hx; subst this; exact Nat.zero_le _
structure GE where
 g : Nat
 N : Nat
 a : Option Addr
 M : Nat
 c : Nat
 zs : List ByteArray
def GE.fst (e : GE) : Value := .slice (some ⟨e.g, 0, none⟩) e.N e.N
def GE.snd (e : GE) : Value := .slice e.a e.M e.c
structure GE.At (w : World) (e : GE) : Prop where
 n : e.N = e.zs.length
 m : e.M = e.zs.length
 lim : e.zs.length <= 8796093022208
 full : Full w e.g e.zs
 own : GS w (.slice e.a e.M e.c) e.zs
theorem GE.At.later {w w' : World} {e : GE} (h : e.At w) (hb : Below w.heap.size w w') : e.At w' :=
 ⟨h.n, h.m, h.lim, h.full.later (hb.block _ (lt_of_block h.full.hg)), h.own.later hb⟩
abbrev gNil : Value := .slice none 0 0
structure GI (w : World) (q : Nat) (L W : Value) (ss tt : List Value) (es : List GE) : Prop where
 hq : w.heap[q]? = some (.cells #[gNil, gNil, gNil, gNil, L, W, gNil, gNil, gNil, gNil, gNil, gNil, gNil, gNil, gNil, gNil, gNil, gNil, gNil, gNil, gNil, gNil] 40 (0, 0))
 l : GL w L ss
 w_ : GL w W tt
 apart : ∀ k, L.ownBlock = some k -> W.ownBlock ≠ some k
 at_ : ∀ e ∈ es, e.At w
structure GF (w w' : World) (q : Nat) (L W L' W' : Value) : Prop where
 os : w'.os = w.os
 tape : w'.tape = w.tape
 output : w'.output = w.output
 size : w.heap.size <= w'.heap.size
 block : ∀ k, k < w.heap.size -> k ≠ q -> some k ≠ L.ownBlock -> some k ≠ W.ownBlock -> w'.heap[k]? = w.heap[k]?
 ml : L'.ownBlock = L.ownBlock ∨ ∃ k, L'.ownBlock = some k /\ w.heap.size <= k
 mw : W'.ownBlock = W.ownBlock ∨ ∃ k, W'.ownBlock = some k /\ w.heap.size <= k
theorem GF.trans {w w1 w2 : World} {q : Nat} {L W L1 W1 L2 W2 : Value} (h : GF w w1 q L W L1 W1) (k : GF w1 w2 q L1 W1 L2 W2) : GF w w2 q L W L2 W2 := by
 refine ⟨k.os.trans h.os, k.tape.trans h.tape, k.output.trans h.output, Nat.le_trans h.size k.size, fun z hz hq hl hw => ?_, ?_, ?_⟩
 ·refine (k.block z (Nat.lt_of_lt_of_le hz h.size) hq (fun e => ?_) (fun e => ?_)).trans (h.block z hz hq hl hw)
  ·rcases h.ml with q | ⟨m, q, hm⟩
   ·exact hl (e.trans q)
   ·rw [q] at e; have := Option.some.inj e; omega
  ·rcases h.mw with q | ⟨m, q, hm⟩
   ·exact hw (e.trans q)
   ·rw [q] at e; have := Option.some.inj e; omega
 ·rcases k.ml with e | ⟨m, e, hm⟩
  ·rw [e]; exact h.ml
  ·exact .inr ⟨m, e, Nat.le_trans h.size hm⟩
 ·rcases k.mw with e | ⟨m, e, hm⟩
  ·rw [e]; exact h.mw
  ·exact .inr ⟨m, e, Nat.le_trans h.size hm⟩
theorem GF.ofBelow {w w' : World} {q : Nat} {L W : Value} (h : Below w.heap.size w w') : GF w w' q L W L W := ⟨h.os, h.tape, h.output, h.size, fun k hk _ _ _ => h.block k hk, .inl rfl, .inl rfl⟩
theorem GF.below {w w' : World} {q B : Nat} {L W L' W' : Value} (h : GF w w' q L W L' W') (hB : B <= w.heap.size) (hq : B <= q) (hl : ∀ k, L.ownBlock = some k -> B <= k) (hw : ∀ k, W.ownBlock = some k -> B <= k) : Below B w w' :=
 ⟨h.os, h.tape, h.output, h.size, fun k hk => h.block k (by omega) (by omega) (fun e => by have := hl k e.symm; omega) (fun e => by have := hw k e.symm; omega)⟩
section
variable {w w' : World} {q : Nat} {L W L' W' : Value} {ss tt : List Value} {es : List GE}
theorem GI.later (h : GI w q L W ss tt es) (hb : Below w.heap.size w w') : GI w' q L W ss tt es :=
 ⟨(hb.block q (lt_of_block h.hq)).trans h.hq, h.l.later hb, h.w_.later hb, h.apart, fun e he => (h.at_ e he).later hb⟩
theorem GI.neL (h : GI w q L W ss tt es) : some q ≠ L.ownBlock := h.l.ne h.hq (by decide)
theorem GI.keepL (h : GI w q L W ss tt es) (hg : Grew w w' L L') : w'.heap[q]? = w.heap[q]? := hg.grown.block q (lt_of_block h.hq) h.neL
end
theorem cell_new (w : World) (x : Value) (t : TypeId) : (w.alloc (.cells #[x] t)).cell? ⟨w.heap.size, 0, none⟩ = some x := by
 have := heap_alloc_new w (.cells #[x] t)
 simp only [World.cell?, this]; rfl
end Go.Proofs.YtjpknihkcndoiaaGreat
