import Derived.Test.YteciabdjkaackaaGreatChecked
import Derived.WalkKit
import Derived.PlainAid
import Derived.Maps.AppendAt
import Derived.Maps.OwnSet
import Derived.Deep.RegionLaw
import Derived.Deep.QuietTactic
import Derived.BigQuiet
import Derived.OwnWalk
import Derived.StringKeys
import Derived.Handy
namespace Go.Proofs.YteciabdjkaackaaGreat
set_option linter.unusedVariables false
open Go.RowKit Go.Maps
def GS (w : World) (v : Value) (ss : List ByteArray) : Prop := w.ownsRow 0 9 1 v ss.length (ss.map Value.string)
theorem GS.kept {w w' : World} {v : Value} {ss : List ByteArray} (h : GS w v ss) (hb : ∀ k, v.ownBlock = some k -> w'.heap[k]? = w.heap[k]?) : GS w' v ss := by
 refine ⟨h.1, ?_⟩
 rcases h.2 with q | ⟨g, cap, cur, rfl, h1, h2, h3⟩
 ·exact .inl q
 ·exact .inr ⟨g, cap, cur, rfl, h1, (hb g rfl).trans h2, h3⟩
theorem GS.lt {w : World} {v : Value} {ss : List ByteArray} (h : GS w v ss) : ∀ k, v.ownBlock = some k -> k < w.heap.size := fun k hk => (World.ownsRow.lt h k hk).2
theorem GS.later {w w' : World} {v : Value} {ss : List ByteArray} (h : GS w v ss) (hb : Below w.heap.size w w') : GS w' v ss := h.kept fun k hk => hb.block k (h.lt k hk)
theorem GS.ne {w : World} {v : Value} {ss : List ByteArray} (h : GS w v ss) {b : Nat} {C : Array Value} {t : TypeId} {fz : Nat × Nat} (hb : w.heap[b]? = some (.cells C t fz)) (ht : t ≠ 9) : some b ≠ v.ownBlock := by
 intro e
 rcases h.2 with ⟨rfl, _⟩ | ⟨g, cap, cur, rfl, _, hg, _⟩
 ·simp [Value.ownBlock] at e
 ·simp [Value.ownBlock] at e
  subst e
  rw [hb] at hg; simp at hg; exact ht hg.2.1
theorem GS.nil (w : World) : GS w (.slice none 0 0) [] := World.ownsRow_nil w 0 9 1
theorem add_none (b off j : Nat) : (⟨b, off, none⟩ : Addr).add j = ⟨b, off + j, none⟩ := by
 unfold Addr.add
 by_cases h : j = 0 <;> simp [h]
structure Grew (w w' : World) (v v' : Value) : Prop where
 grown : w.grownBy w' v.ownBlock
 moved : v'.ownBlock = v.ownBlock ∨ ∃ k, v'.ownBlock = some k /\ w.heap.size <= k
def keyL (s : ByteArray) : Lit := .string s.data.toList
theorem keyL_inj {s t : ByteArray} (h : keyL s = keyL t) : s = t := by
 unfold keyL at h
 simp at h
 exact ByteArray.ext h
theorem keyL_is (s : ByteArray) : WideAt.IsKeyLit (keyL s) := by unfold keyL WideAt.IsKeyLit; trivial
theorem law : Keyed Tryz.prog 9 := string_keyed Tryz.underlying9
theorem keyOf_name {s : ByteArray} (hs : s.size <= maxLen) : keyOf Tryz.prog 9 (.string s) = some (keyL s) := Go.WideMaps.keyOf_string_mk Tryz.underlying9 hs
theorem below_drewN {B : Nat} {w w' : World} (h : Below B w w') (n : Nat) : Below B w (w'.drewN n) := by
 induction n with
 | zero => exact h
 | succ n ih => exact ih.drew
theorem below_alloc (w : World) (o : Obj) : Below w.heap.size w (w.alloc o) := (Below.refl _ _).alloc (Nat.le_refl _) _
theorem heap_set {w : World} {b : Nat} {C : Array Value} {t : TypeId} (h : w.heap[b]? = some (.cells C t (0, 0))) (o : Nat) (u : Value) : (w.setCell ⟨b, o, none⟩ u).heap[b]? = some (.cells (C.setIfInBounds o u) t (0, 0)) := by
 have hlt := lt_of_block h
 have h' : w.heap[b] = .cells C t (0, 0) := by simpa [Array.getElem?_eq_getElem hlt] using h
 show (w.heap.modify b _)[b]? = _
 rw [Array.getElem?_eq_getElem (by simpa using hlt), Array.getElem_modify_self, h']
 rfl
theorem cellq_any {w : World} {q i : Nat} {C : Array Value} {t : TypeId} {fz : Nat × Nat} (h : w.heap[q]? = some (.cells C t fz)) : w.cell? ⟨q, i, none⟩ = C[i]? := by simp [World.cell?, h]
theorem wp_world {P : Program} {c : Code} {Q : Exit -> Act -> World -> Prop} {a : Act} {w : World} (I : World -> Prop) (h : I w) (k : ∀ w', I w' -> Code.wp P c Q a w') : Code.wp P c Q a w := k w h
open Go.RowKit
structure Ext (w0 : World) where
 w : World
 h : Below w0.heap.size w0 w
theorem Ext.cell {w0 : World} (x : Ext w0) {a : Addr} (ha : a.block < w0.heap.size) : x.w.cell? a = w0.cell? a := x.h.cell ha
def StrRow (w : World) (ao : Option Addr) (ss : List ByteArray) : Prop := ss ≠ [] -> ∃ b off, ao = some ⟨b, off, none⟩ /\ b < w.heap.size /\ ∀ i, i < ss.length -> w.cell? ⟨b, off + i, none⟩ = some (.string (ss.getD i ByteArray.empty))
theorem StrRow.later {w w' : World} {ao : Option Addr} {ss : List ByteArray} (h : StrRow w ao ss) (hb : Below w.heap.size w w') : StrRow w' ao ss := fun hn => by
 obtain ⟨b, off, rfl, hl, hc⟩ := h hn
 exact ⟨b, off, rfl, Nat.lt_of_lt_of_le hl hb.size, fun i hi => (hb.cell (p := ⟨b, off + i, none⟩) hl).trans (hc i hi)⟩
theorem GS.row {w : World} {v : Value} {ss : List ByteArray} (h : GS w v ss) : ∃ a c, v = .slice a ss.length c /\ StrRow w a ss /\ (a = none -> c = 0) /\ ss.length <= c := by
 rcases h.2 with ⟨rfl, h0⟩ | ⟨g, cap, cur, rfl, hb, hg, hle, hm, hs, ht⟩
 ·have : ss = [] := List.eq_nil_of_length_eq_zero h0
  subst this
  exact ⟨none, 0, rfl, fun hn => absurd rfl hn, fun _ => rfl, Nat.le_refl _⟩
 ·refine ⟨_, cap, rfl, fun hn => ⟨g, 0, rfl, lt_of_block hg, fun i hi => ?_⟩, (fun h => by cases h), hle⟩
  have := World.ownsRow.cells h (g := g) rfl i (.string (ss.getD i ByteArray.empty)) (by simp [List.getD, hi])
  rwa [add_none] at this
def HL (t : TypeId) (w : World) (v : Value) (ss : List Value) : Prop := w.ownsRow 0 t 1 v ss.length ss
section
variable {t : TypeId} {w w' : World} {v : Value} {ss : List Value}
theorem HL.kept (h : HL t w v ss) (hb : ∀ k, v.ownBlock = some k -> w'.heap[k]? = w.heap[k]?) : HL t w' v ss := by
 refine ⟨h.1, ?_⟩
 rcases h.2 with q | ⟨g, cap, cur, rfl, h1, h2, h3⟩
 ·exact .inl q
 ·exact .inr ⟨g, cap, cur, rfl, h1, (hb g rfl).trans h2, h3⟩
theorem HL.lt (h : HL t w v ss) : ∀ k, v.ownBlock = some k -> k < w.heap.size := fun k hk => (World.ownsRow.lt h k hk).2
theorem HL.later (h : HL t w v ss) (hb : Below w.heap.size w w') : HL t w' v ss := h.kept fun k hk => hb.block k (h.lt k hk)
theorem HL.ne (h : HL t w v ss) {b : Nat} {C : Array Value} {t' : TypeId} (hb : w.heap[b]? = some (.cells C t' (0, 0))) (ht : t' ≠ t) : some b ≠ v.ownBlock := by
 intro e
 rcases h.2 with ⟨rfl, _⟩ | ⟨g, cap, cur, rfl, _, hg, _⟩
 ·simp [Value.ownBlock] at e
 ·simp [Value.ownBlock] at e
  subst e
  rw [hb] at hg; simp at hg; exact ht hg.2
theorem HL.nil (t : TypeId) (w : World) : HL t w (.slice none 0 0) [] := World.ownsRow_nil w 0 t 1
theorem HL.slice (h : HL t w v ss) : ∃ a c, v = .slice a ss.length c := by
 rcases h.2 with ⟨rfl, h0⟩ | ⟨g, cap, cur, rfl, _⟩
 ·exact ⟨none, 0, by rw [h0]⟩
 ·exact ⟨_, _, rfl⟩
theorem HL.at (h : HL t w v ss) (i : Nat) (x : Value) (hx : ss[i]? = some x) : ∃ g c, v = .slice (some ⟨g, 0, none⟩) ss.length c /\ w.cell? ⟨g, i, none⟩ = some x := by
 have hi : i < ss.length := (List.getElem?_eq_some_iff.1 hx).1
 rcases h.2 with ⟨rfl, h0⟩ | ⟨g, cap, cur, rfl, hb, hg, hle, hm, hs, ht⟩
 ·omega
 ·refine ⟨g, cap, rfl, ?_⟩
  have := World.ownsRow.cells h (g := g) rfl i x hx
  rwa [add_none, Nat.zero_add] at this
end
structure HE where
 t : TypeId
 sz : Nat
 g : Nat
 N : Nat
 a : Option Addr
 c : Nat
 cs : List Value
def HE.fst (e : HE) : Value := .slice (some ⟨e.g, 0, none⟩) e.N e.N
def HE.snd (e : HE) : Value := .slice e.a e.N e.c
structure HE.At (w : World) (e : HE) : Prop where
 len : e.cs.length = e.N * e.sz
 lim : e.N <= 140737488355328
 hg : w.heap[e.g]? = some (.cells e.cs.toArray e.t (0, 0))
 own : w.ownsRow 0 e.t e.sz (.slice e.a e.N e.c) e.N e.cs
theorem row_kept {t : TypeId} {sz : Nat} {w w' : World} {v : Value} {n : Nat} {cs : List Value} (h : w.ownsRow 0 t sz v n cs) (hb : ∀ k C, v.ownBlock = some k -> w.heap[k]? = some (.cells C t (0, 0)) -> w'.heap[k]? = w.heap[k]?) : w'.ownsRow 0 t sz v n cs := by
 refine ⟨h.1, ?_⟩
 rcases h.2 with q | ⟨g, cap, cur, rfl, h1, h2, h3⟩
 ·exact .inl q
 ·exact .inr ⟨g, cap, cur, rfl, h1, (hb g _ rfl h2).trans h2, h3⟩
theorem HE.At.keptBy {w w' : World} {e : HE} (h : e.At w) (hb : ∀ (k : Nat) (C : Array Value), w.heap[k]? = some (.cells C e.t (0, 0)) -> w'.heap[k]? = w.heap[k]?) : e.At w' :=
 ⟨h.len, h.lim, (hb _ _ h.hg).trans h.hg, row_kept h.own fun k C _ hk => hb k C hk⟩
theorem HE.At.later {w w' : World} {e : HE} (h : e.At w) (hb : Below w.heap.size w w') : e.At w' := h.keptBy fun k _ hk => hb.block k (lt_of_block hk)
abbrev hNil : Value := .slice none 0 0
def updV (V : Nat -> Value) (i : Nat) (v : Value) : Nat -> Value := fun j => if j = i then v else V j
def updS (S : Nat -> List Value) (i : Nat) (s : List Value) : Nat -> List Value := fun j => if j = i then s else S j
def hArr (V : Nat -> Value) : Array Value := ((List.range 22).map V).toArray
theorem hArr_get (V : Nat -> Value) {i : Nat} (hi : i < 22) : (hArr V)[i]? = some (V i) := by simp [hArr, hi]
theorem hArr_set (V : Nat -> Value) {i : Nat} (v : Value) : (hArr V).setIfInBounds i v = hArr (updV V i v) := by
 unfold hArr
 apply Array.toList_inj.1
 simp only [Array.toList_setIfInBounds]
 apply List.ext_getElem
 ·simp
 ·intro k h1 h2
  simp only [List.getElem_set, List.getElem_map, List.getElem_range, updV]
  by_cases e : i = k
  ·simp [e]
  ·have e' : ¬ k = i := fun q => e q.symm
   simp [e, e']
structure HI (w : World) (q : Nat) (V : Nat -> Value) (ty : Nat -> TypeId) (S : Nat -> List Value) (E : Nat -> List HE) : Prop where
 hq : w.heap[q]? = some (.cells (hArr V) 38 (0, 0))
 row : ∀ i, HL (ty i) w (V i) (S i)
 apart : ∀ i j k, i ≠ j -> (V i).ownBlock = some k -> (V j).ownBlock ≠ some k
 at_ : ∀ κ, ∀ e ∈ E κ, e.At w
 tq : ∀ i, 38 ≠ ty i
 te : ∀ κ, ∀ e ∈ E κ, e.t ≠ 38 /\ ∀ i, e.t ≠ ty i
 nl : ∀ i, S i = [] -> V i = hNil
structure HF (w w' : World) (q : Nat) (V V' : Nat -> Value) : Prop where
 os : w'.os = w.os
 tape : w'.tape = w.tape
 output : w'.output = w.output
 size : w.heap.size <= w'.heap.size
 block : ∀ k, k < w.heap.size -> k ≠ q -> (∀ i, some k ≠ (V i).ownBlock) -> w'.heap[k]? = w.heap[k]?
 mv : ∀ i k, (V' i).ownBlock = some k -> (V i).ownBlock = some k ∨ w.heap.size <= k
theorem HF.trans {w w1 w2 : World} {q : Nat} {V V1 V2 : Nat -> Value} (h : HF w w1 q V V1) (k : HF w1 w2 q V1 V2) : HF w w2 q V V2 := by
 refine ⟨k.os.trans h.os, k.tape.trans h.tape, k.output.trans h.output, Nat.le_trans h.size k.size, fun z hz hq hv => ?_, fun i z hz => ?_⟩
 ·refine (k.block z (Nat.lt_of_lt_of_le hz h.size) hq (fun i e => ?_)).trans (h.block z hz hq hv)
  rcases h.mv i z e.symm with r | r
  ·exact hv i r.symm
  ·omega
 ·rcases k.mv i z hz with r | r
  ·exact h.mv i z r
  ·exact .inr (Nat.le_trans h.size r)
theorem HF.ofBelow {w w' : World} {q : Nat} {V : Nat -> Value} (h : Below w.heap.size w w') : HF w w' q V V := ⟨h.os, h.tape, h.output, h.size, fun k hk _ _ => h.block k hk, fun _ _ e => .inl e⟩
theorem HF.below {w w' : World} {q B : Nat} {V V' : Nat -> Value} (h : HF w w' q V V') (hB : B <= w.heap.size) (hq : B <= q) (hv : ∀ i k, (V i).ownBlock = some k -> B <= k) : Below B w w' :=
 ⟨h.os, h.tape, h.output, h.size, fun k hk => h.block k (by omega) (by omega) (fun i e => by have := hv i k e.symm; omega)⟩
section
variable {w w' : World} {q : Nat} {V V' : Nat -> Value} {ty : Nat -> TypeId} {S : Nat -> List Value} {E : Nat -> List HE}
theorem HI.cell (h : HI w q V ty S E) {i : Nat} (hi : i < 22) : w.cell? ⟨q, i, none⟩ = some (V i) := by
 simp only [World.cell?, h.hq]
 exact hArr_get V hi
theorem HI.free (h : HI w q V ty S E) (i : Nat) : w.frozen? ⟨q, i, none⟩ = false := by simp [World.frozen?, h.hq]
theorem HI.ne (h : HI w q V ty S E) (i : Nat) : some q ≠ (V i).ownBlock := (h.row i).ne h.hq (h.tq i)
theorem HI.later (h : HI w q V ty S E) (hb : Below w.heap.size w w') : HI w' q V ty S E :=
 ⟨(hb.block q (lt_of_block h.hq)).trans h.hq, fun i => (h.row i).later hb, h.apart, fun κ e he => (h.at_ κ e he).later hb, h.tq, h.te, h.nl⟩
theorem HI.other (h : HI w q V ty S E) (hf : HF w w' q V V') {b : Nat} {C : Array Value} {t : TypeId} (hb : w.heap[b]? = some (.cells C t (0, 0))) (ht : t ≠ 38 /\ ∀ i, t ≠ ty i) : w'.heap[b]? = w.heap[b]? :=
 hf.block b (lt_of_block hb) (fun e => by have := h.hq; rw [<- e, hb] at this; simp at this; exact ht.1 this.2) (fun i => (h.row i).ne hb (ht.2 i))
theorem HI.store {i : Nat} {v' : Value} {s' : List Value} (h : HI w q V ty S E) (hg : Grew w w' (V i) v') (hl : HL (ty i) w' v' s') (hs : s' = [] -> v' = hNil := by intro h; simp at h) : HI (w'.setCell ⟨q, i, none⟩ v') q (updV V i v') ty (updS S i s') E /\ HF w (w'.setCell ⟨q, i, none⟩ v') q V (updV V i v') := by
 have b : w'.heap[q]? = some (.cells (hArr V) 38 (0, 0)) := (hg.grown.block q (lt_of_block h.hq) (h.ne i)).trans h.hq
 have hf : HF w (w'.setCell ⟨q, i, none⟩ v') q V (updV V i v') := by
  refine ⟨hg.grown.os, hg.grown.tape, hg.grown.output, by have := hg.grown.size; simpa [World.setCell] using this, fun k hk hq hv => by rw [Below.heap_setCell _ _ _ _ hq]; exact hg.grown.block k hk (hv i), fun j k hk => ?_⟩
  unfold updV at hk
  split at hk
  ·rename_i e
   subst e
   rcases hg.moved with r | ⟨m, r, hm⟩
   ·exact .inl (r ▸ hk)
   ·rw [hk] at r; have := Option.some.inj r; exact .inr (by omega)
  ·exact .inl hk
 refine ⟨⟨by rw [heap_set b, hArr_set], fun j => ?_, fun j j' k hne hk hk' => ?_, fun κ e he => (h.at_ κ e he).keptBy fun k C hk => h.other hf hk (h.te κ e he), h.tq, h.te, fun j hj => ?_⟩, hf⟩
 ·unfold updV updS
  split
  ·rename_i e
   subst e
   exact hl.kept fun k hk => Below.heap_setCell _ _ _ _ (fun e => hl.ne b (h.tq j) (by rw [hk, e]))
  ·rename_i hj
   exact (h.row j).kept fun k hk => by
    rw [Below.heap_setCell _ _ _ _ (fun e => h.ne j (by rw [hk, e]))]
    exact hg.grown.block k ((h.row j).lt k hk) (fun e => h.apart j i k hj hk e.symm)
 ·have mvd : ∀ k, v'.ownBlock = some k -> ∀ j, j ≠ i -> (V j).ownBlock ≠ some k := fun k hk j hj hjk => by
   rcases hg.moved with r | ⟨m, r, hm⟩
   ·exact h.apart j i k hj hjk (r ▸ hk)
   ·rw [hk] at r; have := Option.some.inj r; have := (h.row j).lt k hjk; omega
  unfold updV at hk hk'
  split at hk
  ·rename_i e1
   split at hk'
   ·rename_i e2; exact hne (e1.trans e2.symm)
   ·rename_i e2; exact mvd k hk j' e2 hk'
  ·rename_i e1
   split at hk'
   ·rename_i e2; exact mvd k hk' j e1 hk
   ·exact h.apart j j' k hne hk hk'
 ·unfold updV updS at *
  split at hj
  ·rename_i e1
   rw [if_pos e1]
   exact hs hj
  ·rename_i e1
   rw [if_neg e1]
   exact h.nl j hj
end
def hS (E : Nat -> List HE) : Nat -> List Value := fun i => if i % 2 = 0 then (E (i / 2)).map HE.fst else (E (i / 2)).map HE.snd
abbrev HInv (w : World) (q : Nat) (V : Nat -> Value) (ty : Nat -> TypeId) (E : Nat -> List HE) : Prop := HI w q V ty (hS E) E
def updE (E : Nat -> List HE) (κ : Nat) (e : HE) : Nat -> List HE := fun j => if j = κ then E j ++ [e] else E j
theorem hS_upd (E : Nat -> List HE) (κ : Nat) (e : HE) : updS (updS (hS E) (2 * κ) ((E κ).map HE.fst ++ [e.fst])) (2 * κ + 1) ((E κ).map HE.snd ++ [e.snd]) = hS (updE E κ e) := by
 funext i
 unfold updS hS updE
 by_cases h1 : i = 2 * κ + 1
 ·subst h1
  have a : (2 * κ + 1) % 2 = 1 := by omega
  have b : (2 * κ + 1) / 2 = κ := by omega
  simp [a, b]
 ·by_cases h2 : i = 2 * κ
  ·subst h2
   have a : (2 * κ) % 2 = 0 := by omega
   have b : (2 * κ) / 2 = κ := by omega
   simp [a, b]
  ·rw [if_neg h1, if_neg h2]
   by_cases h3 : i % 2 = 0
   ·have : i / 2 ≠ κ := by omega
    simp [h3, this]
   ·have : i / 2 ≠ κ := by omega
    simp [h3, this]
theorem HI.add {w : World} {q : Nat} {V : Nat -> Value} {ty : Nat -> TypeId} {E : Nat -> List HE} {κ : Nat} {e : HE} (h : HI w q V ty (updS (updS (hS E) (2 * κ) ((E κ).map HE.fst ++ [e.fst])) (2 * κ + 1) ((E κ).map HE.snd ++ [e.snd])) E) (he : e.At w) (ht : e.t ≠ 38 /\ ∀ i, e.t ≠ ty i) : HInv w q V ty (updE E κ e) := by
 rw [hS_upd] at h
 refine ⟨h.hq, h.row, h.apart, fun j x hx => ?_, h.tq, fun j x hx => ?_, h.nl⟩
 ·unfold updE at hx
  split at hx
  ·rcases List.mem_append.1 hx with r | r
   ·exact h.at_ j x r
   ·simp at r; subst r; exact he
  ·exact h.at_ j x hx
 ·unfold updE at hx
  split at hx
  ·rcases List.mem_append.1 hx with r | r
   ·exact h.te j x r
   ·simp at r; subst r; exact ht
  ·exact h.te j x hx
theorem hnew (w : World) (ty : Nat -> TypeId) (hty : ∀ i, 38 ≠ ty i) : HInv (w.alloc (.cells #[hNil, hNil, hNil, hNil, hNil, hNil, hNil, hNil, hNil, hNil, hNil, hNil, hNil, hNil, hNil, hNil, hNil, hNil, hNil, hNil, hNil, hNil] 38)) w.heap.size (fun _ => hNil) ty (fun _ => []) :=
 ⟨heap_alloc_new w _, fun i => (by unfold hS; simp; exact HL.nil _ _), fun i j k _ hk => (by simp [Value.ownBlock] at hk), fun κ e he => (by cases he), hty, fun κ e he => (by cases he), fun _ _ => rfl⟩
def SymRow (w : World) (ao : Option Addr) (l : List (Int × Int)) : Prop := l ≠ [] -> ∃ b off, ao = some ⟨b, off, none⟩ /\ b < w.heap.size /\ ∀ i, i < l.length ->
 w.cell? ⟨b, off + i * 2, none⟩ = some (.int .i64 (l.getD i (0, 0)).1) /\ w.cell? ⟨b, off + i * 2 + 1, none⟩ = some (.int .i64 (l.getD i (0, 0)).2)
theorem SymRow.later {B : Nat} {w w' : World} {ao : Option Addr} {l : List (Int × Int)} (h : SymRow w ao l) (hB : w.heap.size <= B) (hb : Below B w w') : SymRow w' ao l := by
 intro hne
 obtain ⟨b, off, rfl, hl, hc⟩ := h hne
 refine ⟨b, off, rfl, Nat.lt_of_lt_of_le hl hb.size, fun i hi => ?_⟩
 have e : ∀ j, w'.cell? ⟨b, j, none⟩ = w.cell? ⟨b, j, none⟩ := fun j => hb.cell (p := ⟨b, j, none⟩) (by show b < B; omega)
 rw [e, e]
 exact hc i hi
def symCells (l : List (Int × Int)) : List Value := l.flatMap fun q => [.int .i64 q.1, .int .i64 q.2]
theorem symCells_len (l : List (Int × Int)) : (symCells l).length = l.length * 2 := by
 induction l with
 | nil => rfl
 | cons q r ih => simp [symCells] at ih ⊢; omega
theorem symCells_get : ∀ (l : List (Int × Int)) (i : Nat), i < l.length -> (symCells l)[i * 2]? = some (.int .i64 (l.getD i (0, 0)).1) /\ (symCells l)[i * 2 + 1]? = some (.int .i64 (l.getD i (0, 0)).2)
 | [], i, h => by simp at h
 | q :: r, 0, _ => by simp [symCells]
 | q :: r, i + 1, h => by
  have := symCells_get r i (by simpa using h)
  have e : symCells (q :: r) = .int .i64 q.1 :: .int .i64 q.2 :: symCells r := rfl
  rw [e, show (i + 1) * 2 = i * 2 + 1 + 1 by omega]
  simpa using this
def SY (w : World) (v : Value) (l : List (Int × Int)) : Prop := w.ownsRow 0 82 2 v l.length (symCells l)
theorem infoSym : (Tryz.prog.info? 82).map (fun i => (i.zero, i.size, i.bytes)) = some (some (.agg #[.int .i64 0, .int .i64 0]), 2, 16) := by kernel_rfl
theorem infoSym_parts : ∃ i, Tryz.prog.info? 82 = some i /\ i.zero = some (.agg #[.int .i64 0, .int .i64 0]) /\ i.size = 2 /\ i.bytes = 16 := by
 have h := infoSym
 cases e : Tryz.prog.info? 82 with
 | none => rw [e] at h; cases h
 | some i => rw [e] at h; simp at h; exact ⟨i, rfl, h⟩
theorem SY.nil (w : World) : SY w (.slice none 0 0) [] := World.ownsRow_nil w 0 82 2
theorem SY.kept {w w' : World} {v : Value} {l : List (Int × Int)} (h : SY w v l) (hb : ∀ k, v.ownBlock = some k -> w'.heap[k]? = w.heap[k]?) : SY w' v l := by
 refine ⟨h.1, ?_⟩
 rcases h.2 with q | ⟨g, cap, cur, rfl, h1, h2, h3⟩
 ·exact .inl q
 ·exact .inr ⟨g, cap, cur, rfl, h1, (hb g rfl).trans h2, h3⟩
theorem SY.lt {w : World} {v : Value} {l : List (Int × Int)} (h : SY w v l) : ∀ k, v.ownBlock = some k -> k < w.heap.size := fun k hk => (World.ownsRow.lt h k hk).2
theorem SY.later {w w' : World} {v : Value} {l : List (Int × Int)} (h : SY w v l) (hb : Below w.heap.size w w') : SY w' v l := h.kept fun k hk => hb.block k (h.lt k hk)
theorem SY.row {w : World} {a : Option Addr} {n c : Nat} {l : List (Int × Int)} (h : SY w (.slice a n c) l) : SymRow w a l := by
 intro hne
 rcases h.2 with ⟨e, h0⟩ | ⟨g, cap, cur, e, h1, h2, h3⟩
 ·exact absurd (List.eq_nil_of_length_eq_zero h0) hne
 ·have hc := fun j x hx => World.ownsRow.cells h (g := g) (by rw [e]; rfl) j x hx
  cases e
  refine ⟨g, 0, rfl, lt_of_block h2, fun i hi => ?_⟩
  obtain ⟨q1, q2⟩ := symCells_get l i hi
  have r1 := hc _ _ q1
  have r2 := hc _ _ q2
  rw [add_none] at r1 r2
  exact ⟨r1, r2⟩
def InRow (w : World) (ao : Option Addr) (l : List Int) : Prop := l ≠ [] -> ∃ b off, ao = some ⟨b, off, none⟩ /\ b < w.heap.size /\ ∀ i, i < l.length -> w.cell? ⟨b, off + i, none⟩ = some (.int .i64 (l.getD i 0))
theorem InRow.later {w w' : World} {ao : Option Addr} {l : List Int} (h : InRow w ao l) (hb : Below w.heap.size w w') : InRow w' ao l := by
 intro hne
 obtain ⟨b, off, rfl, hl, hc⟩ := h hne
 have e : ∀ j, w'.cell? ⟨b, j, none⟩ = w.cell? ⟨b, j, none⟩ := fun j => hb.cell (p := ⟨b, j, none⟩) hl
 refine ⟨b, off, rfl, Nat.lt_of_lt_of_le hl hb.size, fun i hi => ?_⟩
 rw [e]
 exact hc i hi
structure PV where
 left : Int
 ra : Option Addr
 rc : Nat
 right : List (Int × Int)
 prec : Int
def PV.none : PV := ⟨0, Option.none, 0, [], 0⟩
structure LV where
 assoc : Int
 ta : Option Addr
 tc : Nat
 terms : List Int
def LV.none : LV := ⟨0, Option.none, 0, []⟩
structure PrRow (w : World) (ao : Option Addr) (l : List PV) : Prop where
 cells : l ≠ [] -> ∃ b off, ao = some ⟨b, off, none⟩ /\ b < w.heap.size /\ ∀ i, i < l.length ->
  w.cell? ⟨b, off + i * 3, none⟩ = some (.int .i64 (l.getD i .none).left) /\ w.cell? ⟨b, off + i * 3 + 1, none⟩ = some (.slice (l.getD i .none).ra (l.getD i .none).right.length (l.getD i .none).rc) /\ w.cell? ⟨b, off + i * 3 + 2, none⟩ = some (.int .i64 (l.getD i .none).prec)
 rows : ∀ p ∈ l, SymRow w p.ra p.right
structure LvRow (w : World) (ao : Option Addr) (l : List LV) : Prop where
 cells : l ≠ [] -> ∃ b off, ao = some ⟨b, off, none⟩ /\ b < w.heap.size /\ ∀ i, i < l.length ->
  w.cell? ⟨b, off + i * 2, none⟩ = some (.int .i64 (l.getD i .none).assoc) /\ w.cell? ⟨b, off + i * 2 + 1, none⟩ = some (.slice (l.getD i .none).ta (l.getD i .none).terms.length (l.getD i .none).tc)
 rows : ∀ p ∈ l, InRow w p.ta p.terms
theorem PrRow.later {w w' : World} {ao : Option Addr} {l : List PV} (h : PrRow w ao l) (hb : Below w.heap.size w w') : PrRow w' ao l := by
 refine ⟨fun hne => ?_, fun p hp => (h.rows p hp).later (Nat.le_refl _) hb⟩
 obtain ⟨b, off, rfl, hl, hc⟩ := h.cells hne
 have e : ∀ j, w'.cell? ⟨b, j, none⟩ = w.cell? ⟨b, j, none⟩ := fun j => hb.cell (p := ⟨b, j, none⟩) hl
 refine ⟨b, off, rfl, Nat.lt_of_lt_of_le hl hb.size, fun i hi => ?_⟩
 rw [e, e, e]
 exact hc i hi
theorem LvRow.later {w w' : World} {ao : Option Addr} {l : List LV} (h : LvRow w ao l) (hb : Below w.heap.size w w') : LvRow w' ao l := by
 refine ⟨fun hne => ?_, fun p hp => (h.rows p hp).later hb⟩
 obtain ⟨b, off, rfl, hl, hc⟩ := h.cells hne
 have e : ∀ j, w'.cell? ⟨b, j, none⟩ = w.cell? ⟨b, j, none⟩ := fun j => hb.cell (p := ⟨b, j, none⟩) hl
 refine ⟨b, off, rfl, Nat.lt_of_lt_of_le hl hb.size, fun i hi => ?_⟩
 rw [e, e]
 exact hc i hi
structure GV where
 ta : Option Addr
 tc : Nat
 ts : List ByteArray
 na : Option Addr
 nc : Nat
 ns : List ByteArray
 start : Int
 pa : Option Addr
 pc : Nat
 ps : List PV
 la : Option Addr
 lc : Nat
 ls : List LV
abbrev GV.val (g : GV) : Value := .agg #[.slice g.ta g.ts.length g.tc, .slice g.na g.ns.length g.nc, .int .i64 g.start, .slice g.pa g.ps.length g.pc, .slice g.la g.ls.length g.lc]
structure GAt (n : Nat) (w : World) (g : GV) : Prop where
 t : StrRow w g.ta g.ts
 n_ : StrRow w g.na g.ns
 p : PrRow w g.pa g.ps
 l : LvRow w g.la g.ls
 tz : ∀ s ∈ g.ts, s.size <= maxLen
 nz : ∀ s ∈ g.ns, s.size <= maxLen
 tl : g.ts.length <= n
 nl : g.ns.length <= n
 pl : g.ps.length <= n
 ll : g.ls.length <= n
 rl : ∀ p ∈ g.ps, p.right.length <= n
 vl : ∀ p ∈ g.ls, p.terms.length <= n
theorem GAt.later {n : Nat} {w w' : World} {g : GV} (h : GAt n w g) (hb : Below w.heap.size w w') : GAt n w' g :=
 ⟨h.t.later hb, h.n_.later hb, h.p.later hb, h.l.later hb, h.tz, h.nz, h.tl, h.nl, h.pl, h.ll, h.rl, h.vl⟩
theorem GAt.mono {n m : Nat} {w : World} {g : GV} (h : GAt n w g) (hn : n <= m) : GAt m w g :=
 ⟨h.t, h.n_, h.p, h.l, h.tz, h.nz, Nat.le_trans h.tl hn, Nat.le_trans h.nl hn, Nat.le_trans h.pl hn, Nat.le_trans h.ll hn, fun p hp => Nat.le_trans (h.rl p hp) hn, fun p hp => Nat.le_trans (h.vl p hp) hn⟩
def IL (w : World) (v : Value) (l : List Int) : Prop := w.ownsRow 0 3 1 v l.length (l.map (.int .i64 ·))
theorem infoInt : (Tryz.prog.info? 3).map (fun i => (i.zero, i.size, i.bytes)) = some (some (.int .i64 0), 1, 8) := by kernel_rfl
theorem infoInt_parts : ∃ i, Tryz.prog.info? 3 = some i /\ i.zero = some (.int .i64 0) /\ i.size = 1 /\ i.bytes = 8 := by
 have h := infoInt
 cases e : Tryz.prog.info? 3 with
 | none => rw [e] at h; cases h
 | some i => rw [e] at h; simp at h; exact ⟨i, rfl, h⟩
theorem IL.nil (w : World) : IL w (.slice none 0 0) [] := World.ownsRow_nil w 0 3 1
theorem il_len {w : World} {v : Value} {l : List Int} (h : IL w v l) : ∃ a c, v = .slice a l.length c := by
 rcases h.2 with ⟨rfl, h0⟩ | ⟨g, cap, cur, rfl, _⟩
 ·exact ⟨none, 0, by rw [h0]⟩
 ·exact ⟨_, _, rfl⟩
theorem IL.kept {w w' : World} {v : Value} {l : List Int} (h : IL w v l) (hb : ∀ k, v.ownBlock = some k -> w'.heap[k]? = w.heap[k]?) : IL w' v l := by
 refine ⟨h.1, ?_⟩
 rcases h.2 with q | ⟨g, cap, cur, rfl, h1, h2, h3⟩
 ·exact .inl q
 ·exact .inr ⟨g, cap, cur, rfl, h1, (hb g rfl).trans h2, h3⟩
theorem IL.lt {w : World} {v : Value} {l : List Int} (h : IL w v l) : ∀ k, v.ownBlock = some k -> k < w.heap.size := fun k hk => (World.ownsRow.lt h k hk).2
theorem IL.later {w w' : World} {v : Value} {l : List Int} (h : IL w v l) (hb : Below w.heap.size w w') : IL w' v l := h.kept fun k hk => hb.block k (h.lt k hk)
theorem wpList_il_append_w {ops : Array Oper} {rest : List Oper} {o : Oper} {a : Act} {Q : Exit -> Act -> World -> Prop} {w : World} (hgd : o.guard = none) (s x : Operand)
  (ho : o.op = .call { callee := .builtin .append, args := #[s, x], argTypes := #[55, 55] })
  (v : Value) (l : List Int) (hs : a.eval s = v) (h : IL w v l) (b c : Nat) (k : Int) (hx : a.eval x = .slice (some ⟨b, 0, none⟩) 1 c) (hy : w.cell? ⟨b, 0, none⟩ = some (.int .i64 k)) (hlen : l.length <= 100000000)
  (hK : ∀ a' n' c' w', IL w' (.slice a' n' c') (l ++ [k]) -> Grew w w' v (.slice a' n' c') -> wpList Tryz.prog ops Q rest (a.put o.dst (.slice a' n' c')) w') : wpList Tryz.prog ops Q (o :: rest) a w := by
 obtain ⟨i0, hi, hz0, hz1, hz2⟩ := infoInt_parts
 refine wpList_append_own_at w hgd s x 55 ho 0 3 i0 (.int .i64 0) 1 8 Tryz.underlying55 hi hz0 hz1 hz2 rfl (by decide) v l.length (l.map (.int .i64 ·)) hs h ⟨b, 0, none⟩ 1 c [.int .i64 k] hx (by simp) ?_ ?_ (by unfold maxLen; omega) (by omega) (Nat.zero_le _) ?_
 ·intro j u hu
  match j with
  | 0 => simp at hu; subst hu; rw [add_none]; exact hy
  | j + 1 => simp at hu
 ·intro u hu; simp at hu; subst hu; rfl
 ·intro v' w' h2 h3 _ h5
  have h6 : IL w' v' (l ++ [k]) := by unfold IL; simpa using h2
  obtain ⟨a', c', rfl⟩ := il_len h6
  exact hK _ _ _ w' h6 ⟨h3, h5.imp id fun e => ⟨_, e, Nat.le_refl _⟩⟩
theorem wpList_il_append {ops : Array Oper} {rest : List Oper} {o : Oper} {a : Act} {Q : Exit -> Act -> World -> Prop} {w : World} (hgd : o.guard = none) (s x : Operand)
  (ho : o.op = .call { callee := .builtin .append, args := #[s, x], argTypes := #[55, 55] })
  (v : Value) (l : List Int) (hs : a.eval s = v) (h : IL w v l) (b c : Nat) (k : Int) (hx : a.eval x = .slice (some ⟨b, 0, none⟩) 1 c) (hy : w.cell? ⟨b, 0, none⟩ = some (.int .i64 k)) (hlen : l.length <= 2000000)
  (hK : ∀ a' n' c' w', IL w' (.slice a' n' c') (l ++ [k]) -> Grew w w' v (.slice a' n' c') -> wpList Tryz.prog ops Q rest (a.put o.dst (.slice a' n' c')) w') : wpList Tryz.prog ops Q (o :: rest) a w := wpList_il_append_w hgd s x ho v l hs h b c k hx hy (Nat.le_trans hlen (by omega)) hK
end Go.Proofs.YteciabdjkaackaaGreat
