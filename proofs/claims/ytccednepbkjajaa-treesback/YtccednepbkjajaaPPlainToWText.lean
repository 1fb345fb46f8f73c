import Derived.WalkKit
import Derived.Laws.BitsAllLaws
import Derived.Test.YtccednepbkjajaaProg
import Derived.WalkSpells
import Derived.WalkLawsBesides
import Derived.Handy
import Derived.Laws.AppendOwnNone
import Derived.Deep.RegionWith
import Derived.Deep.AppendSrc
import Derived.Deep.RegionHeld3
import Derived.Deep.QuietTactic
import Derived.BigQuiet
import Derived.Lib.SlBytesConst
import Derived.Deep.RegionLaw
/- Plain facts on lists of bytes: no program in sight. -/
namespace Go.Proofs.Ytccednepbkjajaa.C
set_option linter.unusedVariables false
open Go.RowKit
def lo (xs : List Int) : Int := xs.foldl (fun a c => (a + c) % 65521) 1
def hi (xs : List Int) : Int := (xs.foldl (fun (p : Int × Int) c => ((p.1 + c) % 65521, (p.2 + (p.1 + c) % 65521) % 65521)) (1, 0)).2
def adler (xs : List Int) : Int := hi xs * 65536 + lo xs
def isBytes (xs : List Int) : Prop := ∀ x ∈ xs, 0 <= x /\ x <= 255
theorem isBytes.at {xs : List Int} (h : isBytes xs) (i : Nat) : 0 <= xs.getD i 0 /\ xs.getD i 0 <= 255 := by
 by_cases hi : i < xs.length
 ·have := h (xs[i]) (List.getElem_mem hi); simpa [List.getD, hi] using this
 ·simp [List.getD, hi]
def RowAt (w : World) (ao : Option Addr) (xs : List Int) : Prop :=
 isBytes xs /\ (xs ≠ [] -> ∃ b off, ao = some ⟨b, off, none⟩ /\ ∀ i, i < xs.length -> w.cell? ⟨b, off + i, none⟩ = some (.int .u8 (xs.getD i 0)))
theorem RowAt.later {w w' : World} {ao : Option Addr} {xs : List Int} (h : RowAt w ao xs) (hb : Below w.heap.size w w') : RowAt w' ao xs := by
 refine ⟨h.1, fun hne => ?_⟩
 obtain ⟨b, off, rfl, hc⟩ := h.2 hne
 refine ⟨b, off, rfl, fun i hi => ?_⟩
 rw [hb.cell (p := ⟨b, off + i, none⟩) (World.block_lt_of_cell? w _ (hc i hi))]
 exact hc i hi
theorem isBytes_nil : isBytes [] := fun _ h => by cases h
theorem RowAt.nil (w : World) (ao : Option Addr) : RowAt w ao [] := ⟨isBytes_nil, fun h => absurd rfl h⟩
theorem isBytes_take {xs : List Int} (h : isBytes xs) (k : Nat) : isBytes (xs.take k) := fun x hx => h x (List.mem_of_mem_take hx)
theorem isBytes_drop {xs : List Int} (h : isBytes xs) (k : Nat) : isBytes (xs.drop k) := fun x hx => h x (List.mem_of_mem_drop hx)
abbrev vals (xs : List Int) : List Value := xs.map (Value.int .u8)
theorem rowAt_of_owns {w : World} {base : Nat} {e : TypeId} {v : Value} {xs : List Int} (hb : isBytes xs) (h : w.ownsRow base e 1 v xs.length (vals xs)) : ∃ ao cap, v = .slice ao xs.length cap /\ (ao = none -> xs = [] /\ cap = 0) /\ RowAt w ao xs := by
 obtain ⟨_, h2⟩ := h
 rcases h2 with ⟨rfl, hn⟩ | ⟨g, cap, cur, rfl, hg, hh, hl, hm, hs, ht⟩
 ·obtain rfl : xs = [] := List.eq_nil_of_length_eq_zero hn
  exact ⟨none, 0, rfl, fun _ => ⟨rfl, rfl⟩, RowAt.nil _ _⟩
 ·refine ⟨_, cap, rfl, (fun h => by cases h), hb, fun _ => ⟨g, 0, rfl, fun i hi => ?_⟩⟩
  have e1 : cur.toList[i]? = some (.int .u8 (xs.getD i 0)) := by
   have : (cur.toList.take (xs.length * 1))[i]? = (vals xs)[i]? := by rw [ht]
   rw [List.getElem?_take_of_lt (by omega)] at this
   rw [this]; simp [List.getD, hi]
  simp only [World.cell?, hh, Nat.zero_add]
  simpa using e1
theorem add_none (b off j : Nat) : (⟨b, off, none⟩ : Addr).add j = ⟨b, off + j, none⟩ := by
 unfold Addr.add
 by_cases h : j = 0 <;> simp [h]
theorem RowAt.news {w : World} {ad : Addr} {xs : List Int} (h : RowAt w (some ad) xs) : ∀ j u, (vals xs)[j]? = some u -> w.cell? (ad.add j) = some u := by
 intro j u hj
 have hjl : j < xs.length := by simpa using (List.getElem?_eq_some_iff.1 hj).1
 obtain ⟨b, off, he, hc⟩ := h.2 (by intro h; subst h; simp at hjl)
 obtain rfl := Option.some.inj he
 have := hc j hjl
 simp [List.getD, hjl] at this hj
 subst hj
 rw [add_none]
 exact this
theorem below_alloc (w : World) (o : Obj) : Below w.heap.size w (w.alloc o) := (Below.refl _ _).alloc (Nat.le_refl _) _
def Own (w : World) (v : Value) (xs : List Int) : Prop := isBytes xs /\ w.ownsRow 0 5 1 v xs.length (vals xs)
structure Grew (w w' : World) (v v' : Value) : Prop where
 grown : w.grownBy w' v.ownBlock
 moved : v'.ownBlock = v.ownBlock ∨ ∃ k, v'.ownBlock = some k /\ w.heap.size <= k
theorem Grew.refl (w : World) (v : Value) : Grew w w v v := ⟨⟨rfl, rfl, rfl, Nat.le_refl _, fun _ _ _ => rfl⟩, .inl rfl⟩
theorem Grew.trans {w w1 w2 : World} {v v1 v2 : Value} (h : Grew w w1 v v1) (k : Grew w1 w2 v1 v2) : Grew w w2 v v2 := by
 refine ⟨⟨k.grown.os.trans h.grown.os, k.grown.tape.trans h.grown.tape, k.grown.output.trans h.grown.output, Nat.le_trans h.grown.size k.grown.size, fun i hi hne => ?_⟩, ?_⟩
 ·refine (k.grown.block i (Nat.lt_of_lt_of_le hi h.grown.size) ?_).trans (h.grown.block i hi hne)
  rcases h.moved with e | ⟨q, e, hq⟩
  ·rw [e]; exact hne
  ·rw [e]; intro e'; have := Option.some.inj e'; omega
 ·rcases k.moved with e | ⟨q, e, hq⟩
  ·rw [e]; exact h.moved
  ·exact .inr ⟨q, e, Nat.le_trans h.grown.size hq⟩
theorem Grew.alloc {w w' : World} {v v' : Value} (h : Grew w w' v v') (o : Obj) : Grew w (w'.alloc o) v v' := by
 refine ⟨⟨h.grown.os, h.grown.tape, h.grown.output, by have := h.grown.size; simp; omega, fun i hi hne => ?_⟩, h.moved⟩
 exact (Below.heap_alloc w' o i (Nat.lt_of_lt_of_le hi h.grown.size)).trans (h.grown.block i hi hne)
theorem Own.alloc {w : World} {v : Value} {xs : List Int} (h : Own w v xs) (o : Obj) : Own (w.alloc o) v xs := ⟨h.1, h.2.alloc o⟩
theorem Own.drew {w : World} {v : Value} {xs : List Int} (h : Own w v xs) : Own w.drew v xs := ⟨h.1, h.2.drew⟩
theorem Own.lt {w : World} {v : Value} {xs : List Int} (h : Own w v xs) : ∀ k, v.ownBlock = some k -> k < w.heap.size := fun k hk => (h.2.lt k hk).2
theorem Own.kept {w w' : World} {v : Value} {xs : List Int} (h : Own w v xs) (hb : ∀ k, v.ownBlock = some k -> w'.heap[k]? = w.heap[k]?) : Own w' v xs := by
 refine ⟨h.1, h.2.1, ?_⟩
 rcases h.2.2 with hn | ⟨g, cap, cur, rfl, hb', hgg, rest⟩
 ·exact .inl hn
 ·exact .inr ⟨g, cap, cur, rfl, hb', by rw [hb g rfl]; exact hgg, rest⟩
theorem Own.nil (w : World) : Own w (.slice none 0 0) [] := ⟨isBytes_nil, World.ownsRow_nil w 0 5 1⟩
theorem Own.row {w : World} {v : Value} {xs : List Int} (h : Own w v xs) : ∃ ao cap, v = .slice ao xs.length cap /\ (ao = none -> xs = [] /\ cap = 0) /\ RowAt w ao xs := rowAt_of_owns h.1 h.2
def enc : Nat -> Int -> List Int
 | 0, _ => []
 | f + 1, n => if 128 <= n then (n % 128 + 128) :: enc f (n / 128) else [n]
structure WGrew (w w' : World) (q : Nat) (v v' : Value) : Prop where
 os : w'.os = w.os
 tape : w'.tape = w.tape
 output : w'.output = w.output
 size : w.heap.size <= w'.heap.size
 block : ∀ k, k < w.heap.size -> k ≠ q -> some k ≠ v.ownBlock -> w'.heap[k]? = w.heap[k]?
 moved : v'.ownBlock = v.ownBlock ∨ ∃ k, v'.ownBlock = some k /\ w.heap.size <= k
theorem heap_set {w : World} {b : Nat} {C : Array Value} {t : TypeId} (h : w.heap[b]? = some (.cells C t (0, 0))) (o : Nat) (u : Value) : (w.setCell ⟨b, o, none⟩ u).heap[b]? = some (.cells (C.setIfInBounds o u) t (0, 0)) := by
 have hlt := lt_of_block h
 have h' : w.heap[b] = .cells C t (0, 0) := by simpa [Array.getElem?_eq_getElem hlt] using h
 show (w.heap.modify b _)[b]? = _
 rw [Array.getElem?_eq_getElem (by simpa using hlt), Array.getElem_modify_self, h']
 rfl
def Magic (w : World) : Prop := w.cell? ⟨0, 0, none⟩ = some (.int .u8 103) /\ w.cell? ⟨0, 1, none⟩ = some (.int .u8 116) /\ w.cell? ⟨0, 2, none⟩ = some (.int .u8 114)
theorem Magic.lt {w : World} (h : Magic w) : 0 < w.heap.size := World.block_lt_of_cell? w _ h.1
theorem Magic.later {w w' : World} {B : Nat} (h : Magic w) (hb : Below B w w') (hB : 0 < B) : Magic w' := by
 obtain ⟨a, b, c⟩ := h
 exact ⟨(hb.cell (p := ⟨0, 0, none⟩) hB).trans a, (hb.cell (p := ⟨0, 1, none⟩) hB).trans b, (hb.cell (p := ⟨0, 2, none⟩) hB).trans c⟩
def headBytes (k : Int) : List Int := [103, 116, 114, k]
def sumBytes (s : Int) : List Int := [s / 16777216, s / 65536 % 256, s / 256 % 256, s % 256]
def lead (k : Int) (xs : List Int) : List Int := headBytes k ++ enc 10 xs.length ++ xs
def frame (k : Int) (xs : List Int) : List Int := lead k xs ++ sumBytes (adler (lead k xs))
theorem RowAt.drop {w : World} {b off : Nat} {xs : List Int} (h : RowAt w (some ⟨b, off, none⟩) xs) (n : Nat) : RowAt w (some ⟨b, off + n, none⟩) (xs.drop n) := by
 refine ⟨isBytes_drop h.1 n, fun hne => ⟨b, off + n, rfl, fun i hi => ?_⟩⟩
 have hx : xs ≠ [] := fun e => hne (by rw [e]; simp)
 obtain ⟨b', off', he, hc⟩ := h.2 hx
 simp only [Option.some.injEq, Addr.mk.injEq, and_true] at he
 obtain ⟨rfl, rfl⟩ := he
 simp only [List.length_drop] at hi
 have := hc (n + i) (by omega)
 rw [show off + (n + i) = off + n + i by omega] at this
 rw [this]; simp [List.getD]
theorem RowAt.take {w : World} {ao : Option Addr} {xs : List Int} (h : RowAt w ao xs) (n : Nat) : RowAt w ao (xs.take n) := by
 refine ⟨isBytes_take h.1 n, fun hne => ?_⟩
 have hx : xs ≠ [] := fun e => hne (by rw [e]; simp)
 obtain ⟨b, off, rfl, hc⟩ := h.2 hx
 refine ⟨b, off, rfl, fun i hi => ?_⟩
 simp only [List.length_take] at hi
 rw [hc i (by omega)]
 simp [List.getD, show i < n by omega]
theorem RowAt.drewN {w : World} {ao : Option Addr} {xs : List Int} (h : RowAt w ao xs) (n : Nat) : RowAt (w.drewN n) ao xs := h.later (below_drewN (Below.refl _ _) n)
def Still (w w' : World) : Prop := ∀ B, Below B w w'
theorem Still.refl (w : World) : Still w w := fun B => Below.refl B w
theorem Still.drew {w w' : World} (h : Still w w') : Still w w'.drew := fun B => (h B).drew
theorem Still.trans {w w1 w2 : World} (h : Still w w1) (k : Still w1 w2) : Still w w2 := fun B => (h B).trans (k B)
theorem Still.cell {w w' : World} (h : Still w w') (b o : Nat) : w'.cell? ⟨b, o, none⟩ = w.cell? ⟨b, o, none⟩ := (h (b + 1)).cell (p := ⟨b, o, none⟩) (Nat.lt_succ_self b)
theorem Still.row {w w' : World} (h : Still w w') {ao : Option Addr} {xs : List Int} (hr : RowAt w ao xs) : RowAt w' ao xs := hr.later (h _)
theorem Still.own {w w' : World} (h : Still w w') {v : Value} {xs : List Int} (hr : Own w v xs) : Own w' v xs := hr.kept fun k _ => (h (k + 1)).block k (Nat.lt_succ_self k)
theorem Own.later {w w' : World} {v : Value} {xs : List Int} (h : Own w v xs) (hb : Below w.heap.size w w') : Own w' v xs := h.kept fun k hk => hb.block k (h.lt k hk)
theorem WGrew.refl (w : World) (q : Nat) (v : Value) : WGrew w w q v v := ⟨rfl, rfl, rfl, Nat.le_refl _, fun _ _ _ _ => rfl, .inl rfl⟩
end Go.Proofs.Ytccednepbkjajaa.C
