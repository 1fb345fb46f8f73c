import Derived.WalkKit
import Derived.Laws.BitsAllLaws
import Derived.Test.YtndbdliaidbocaaGreatProg
import Derived.WalkSpells
import Derived.WalkLawsBesides
import Derived.Handy
import Derived.Laws.AppendOwnNone
import Derived.Deep.RegionWith
import Derived.Deep.AppendSrc
import Derived.Deep.RegionHeld3
import Derived.Deep.QuietTactic
import Derived.BigQuiet
import Derived.Lib.SlBytesConst
import Derived.Deep.RegionLaw
import Derived.Test.YtndbdliaidbocaaGreatPBBaseToGInts
import Derived.Test.YtndbdliaidbocaaGreatPGCheckCToGCheckD
/- Plain facts on lists of bytes: no program in sight. -/
namespace Go.Proofs.YtndbdliaidbocaaGreat.C
set_option linter.unusedVariables false
open Go.RowKit
def lo (xs : List Int) : Int := xs.foldl (fun a c => (a + c) % 65521) 1
def hi (xs : List Int) : Int := (xs.foldl (fun (p : Int × Int) c => ((p.1 + c) % 65521, (p.2 + (p.1 + c) % 65521) % 65521)) (1, 0)).2
def adler (xs : List Int) : Int := hi xs * 65536 + lo xs
def isBytes (xs : List Int) : Prop := ∀ x ∈ xs, 0 <= x /\ x <= 255
theorem isBytes.at {xs : List Int} (h : isBytes xs) (i : Nat) : 0 <= xs.getD i 0 /\ xs.getD i 0 <= 255 := by
 by_cases hi : i < xs.length
 ·have := h (xs[i]) (List.getElem_mem hi); simpa [List.getD, hi] using this
 ·simp [List.getD, hi]
def RowAt (w : World) (ao : Option Addr) (xs : List Int) : Prop :=
 isBytes xs /\ (xs ≠ [] -> ∃ b off, ao = some ⟨b, off, none⟩ /\ ∀ i, i < xs.length -> w.cell? ⟨b, off + i, none⟩ = some (.int .u8 (xs.getD i 0)))
theorem RowAt.later {w w' : World} {ao : Option Addr} {xs : List Int} (h : RowAt w ao xs) (hb : Below w.heap.size w w') : RowAt w' ao xs := by
 refine ⟨h.1, fun hne => ?_⟩
 obtain ⟨b, off, rfl, hc⟩ := h.2 hne
 refine ⟨b, off, rfl, fun i hi => ?_⟩
 rw [hb.cell (p := ⟨b, off + i, none⟩) (World.block_lt_of_cell? w _ (hc i hi))]
 exact hc i hi
theorem isBytes_nil : isBytes [] := fun _ h => by cases h
theorem RowAt.nil (w : World) (ao : Option Addr) : RowAt w ao [] := ⟨isBytes_nil, fun h => absurd rfl h⟩
theorem isBytes_take {xs : List Int} (h : isBytes xs) (k : Nat) : isBytes (xs.take k) := fun x hx => h x (List.mem_of_mem_take hx)
theorem isBytes_drop {xs : List Int} (h : isBytes xs) (k : Nat) : isBytes (xs.drop k) := fun x hx => h x (List.mem_of_mem_drop hx)
abbrev vals (xs : List Int) : List Value := xs.map (Value.int .u8)
theorem rowAt_of_owns {w : World} {base : Nat} {e : TypeId} {v : Value} {xs : List Int} (hb : isBytes xs) (h : w.ownsRow base e 1 v xs.length (vals xs)) : ∃ ao cap, v = .slice ao xs.length cap /\ (ao = none -> xs = [] /\ cap = 0) /\ RowAt w ao xs := by
 obtain ⟨_, h2⟩ := h
 rcases h2 with ⟨rfl, hn⟩ | ⟨g, cap, cur, rfl, hg, hh, hl, hm, hs, ht⟩
 ·obtain rfl : xs = [] := List.eq_nil_of_length_eq_zero hn
  exact ⟨none, 0, rfl, fun _ => ⟨rfl, rfl⟩, RowAt.nil _ _⟩
 ·refine ⟨_, cap, rfl, (fun h => by cases h), hb, fun _ => ⟨g, 0, rfl, fun i hi => ?_⟩⟩
  have e1 : cur.toList[i]? = some (.int .u8 (xs.getD i 0)) := by
   have : (cur.toList.take (xs.length * 1))[i]? = (vals xs)[i]? := by rw [ht]
   rw [List.getElem?_take_of_lt (by omega)] at this
   rw [this]; simp [List.getD, hi]
  simp only [World.cell?, hh, Nat.zero_add]
  simpa using e1
theorem add_none (b off j : Nat) : (⟨b, off, none⟩ : Addr).add j = ⟨b, off + j, none⟩ := by
 unfold Addr.add
 by_cases h : j = 0 <;> simp [h]
theorem below_alloc (w : World) (o : Obj) : Below w.heap.size w (w.alloc o) := (Below.refl _ _).alloc (Nat.le_refl _) _
end Go.Proofs.YtndbdliaidbocaaGreat.C
namespace Go.Proofs.YtndbdliaidbocaaGreat.C
set_option linter.unusedVariables false
open Go.RowKit
end Go.Proofs.YtndbdliaidbocaaGreat.C
namespace Go.Proofs.YtndbdliaidbocaaGreat.C
set_option linter.unusedVariables false
open Go.RowKit
def Magic (w : World) : Prop := w.cell? ⟨0, 0, none⟩ = some (.int .u8 103) /\ w.cell? ⟨0, 1, none⟩ = some (.int .u8 116) /\ w.cell? ⟨0, 2, none⟩ = some (.int .u8 114)
theorem Magic.lt {w : World} (h : Magic w) : 0 < w.heap.size := World.block_lt_of_cell? w _ h.1
theorem Magic.later {w w' : World} {B : Nat} (h : Magic w) (hb : Below B w w') (hB : 0 < B) : Magic w' := by
 obtain ⟨a, b, c⟩ := h
 exact ⟨(hb.cell (p := ⟨0, 0, none⟩) hB).trans a, (hb.cell (p := ⟨0, 1, none⟩) hB).trans b, (hb.cell (p := ⟨0, 2, none⟩) hB).trans c⟩
end Go.Proofs.YtndbdliaidbocaaGreat.C
namespace Go.Proofs.YtndbdliaidbocaaGreat.C
set_option linter.unusedVariables false
open Go.RowKit
def Own (w : World) (v : Value) (xs : List Int) : Prop := isBytes xs /\ w.ownsRow 0 5 1 v xs.length (vals xs)
structure Grew (w w' : World) (v v' : Value) : Prop where
 grown : w.grownBy w' v.ownBlock
 moved : v'.ownBlock = v.ownBlock ∨ ∃ k, v'.ownBlock = some k /\ w.heap.size <= k
theorem Grew.refl (w : World) (v : Value) : Grew w w v v := ⟨⟨rfl, rfl, rfl, Nat.le_refl _, fun _ _ _ => rfl⟩, .inl rfl⟩
theorem Grew.trans {w w1 w2 : World} {v v1 v2 : Value} (h : Grew w w1 v v1) (k : Grew w1 w2 v1 v2) : Grew w w2 v v2 := by
 refine ⟨⟨k.grown.os.trans h.grown.os, k.grown.tape.trans h.grown.tape, k.grown.output.trans h.grown.output, Nat.le_trans h.grown.size k.grown.size, fun i hi hne => ?_⟩, ?_⟩
 ·refine (k.grown.block i (Nat.lt_of_lt_of_le hi h.grown.size) ?_).trans (h.grown.block i hi hne)
  rcases h.moved with e | ⟨q, e, hq⟩
  ·rw [e]; exact hne
  ·rw [e]; intro e'; have := Option.some.inj e'; omega
 ·rcases k.moved with e | ⟨q, e, hq⟩
  ·rw [e]; exact h.moved
  ·exact .inr ⟨q, e, Nat.le_trans h.grown.size hq⟩
theorem Grew.alloc {w w' : World} {v v' : Value} (h : Grew w w' v v') (o : Obj) : Grew w (w'.alloc o) v v' := by
 refine ⟨⟨h.grown.os, h.grown.tape, h.grown.output, by have := h.grown.size; simp; omega, fun i hi hne => ?_⟩, h.moved⟩
 exact (Below.heap_alloc w' o i (Nat.lt_of_lt_of_le hi h.grown.size)).trans (h.grown.block i hi hne)
theorem Own.alloc {w : World} {v : Value} {xs : List Int} (h : Own w v xs) (o : Obj) : Own (w.alloc o) v xs := ⟨h.1, h.2.alloc o⟩
theorem Own.drew {w : World} {v : Value} {xs : List Int} (h : Own w v xs) : Own w.drew v xs := ⟨h.1, h.2.drew⟩
theorem Own.lt {w : World} {v : Value} {xs : List Int} (h : Own w v xs) : ∀ k, v.ownBlock = some k -> k < w.heap.size := fun k hk => (h.2.lt k hk).2
theorem Own.kept {w w' : World} {v : Value} {xs : List Int} (h : Own w v xs) (hb : ∀ k, v.ownBlock = some k -> w'.heap[k]? = w.heap[k]?) : Own w' v xs := by
 refine ⟨h.1, h.2.1, ?_⟩
 rcases h.2.2 with hn | ⟨g, cap, cur, rfl, hb', hgg, rest⟩
 ·exact .inl hn
 ·exact .inr ⟨g, cap, cur, rfl, hb', by rw [hb g rfl]; exact hgg, rest⟩
theorem Own.nil (w : World) : Own w (.slice none 0 0) [] := ⟨isBytes_nil, World.ownsRow_nil w 0 5 1⟩
theorem Own.row {w : World} {v : Value} {xs : List Int} (h : Own w v xs) : ∃ ao cap, v = .slice ao xs.length cap /\ (ao = none -> xs = [] /\ cap = 0) /\ RowAt w ao xs := rowAt_of_owns h.1 h.2
theorem grew_below {w w' : World} {v v' : Value} {B : Nat} (h : Grew w w' v v') (hB : B <= w.heap.size) (hv : ∀ k, v.ownBlock = some k -> B <= k) : Below B w w' :=
 (Below.refl _ _).grown h.grown hB hv
end Go.Proofs.YtndbdliaidbocaaGreat.C
namespace Go.Proofs.YtndbdliaidbocaaGreat.C
set_option linter.unusedVariables false
open Go.RowKit
def enc : Nat -> Int -> List Int
 | 0, _ => []
 | f + 1, n => if 128 <= n then (n % 128 + 128) :: enc f (n / 128) else [n]
end Go.Proofs.YtndbdliaidbocaaGreat.C
namespace Go.Proofs.YtndbdliaidbocaaGreat.C
set_option linter.unusedVariables false
open Go.RowKit
end Go.Proofs.YtndbdliaidbocaaGreat.C
namespace Go.Proofs.YtndbdliaidbocaaGreat.C
set_option linter.unusedVariables false
open Go.RowKit
structure WGrew (w w' : World) (q : Nat) (v v' : Value) : Prop where
 os : w'.os = w.os
 tape : w'.tape = w.tape
 output : w'.output = w.output
 size : w.heap.size <= w'.heap.size
 block : ∀ k, k < w.heap.size -> k ≠ q -> some k ≠ v.ownBlock -> w'.heap[k]? = w.heap[k]?
 moved : v'.ownBlock = v.ownBlock ∨ ∃ k, v'.ownBlock = some k /\ w.heap.size <= k
theorem heap_set {w : World} {b : Nat} {C : Array Value} {t : TypeId} (h : w.heap[b]? = some (.cells C t (0, 0))) (o : Nat) (u : Value) : (w.setCell ⟨b, o, none⟩ u).heap[b]? = some (.cells (C.setIfInBounds o u) t (0, 0)) := by
 have hlt := lt_of_block h
 have h' : w.heap[b] = .cells C t (0, 0) := by simpa [Array.getElem?_eq_getElem hlt] using h
 show (w.heap.modify b _)[b]? = _
 rw [Array.getElem?_eq_getElem (by simpa using hlt), Array.getElem_modify_self, h']
 rfl
end Go.Proofs.YtndbdliaidbocaaGreat.C
namespace Go.Proofs.YtndbdliaidbocaaGreat.C
set_option linter.unusedVariables false
open Go.RowKit
end Go.Proofs.YtndbdliaidbocaaGreat.C
namespace Go.Proofs.YtndbdliaidbocaaGreat.C
set_option linter.unusedVariables false
open Go.RowKit
def chk : List Int -> Nat -> List Int -> Int × Int
 | [], _, _ => (0, 0)
 | _ :: _, i, [] => (11, i)
 | h :: t, i, x :: r => if x = h then chk t (i + 1) r else (14, i)
def headBytes (k : Int) : List Int := [103, 116, 114, k]
end Go.Proofs.YtndbdliaidbocaaGreat.C
namespace Go.Proofs.YtndbdliaidbocaaGreat.C
set_option linter.unusedVariables false
open Go.RowKit
def sumBytes (s : Int) : List Int := [s / 16777216, s / 65536 % 256, s / 256 % 256, s % 256]
end Go.Proofs.YtndbdliaidbocaaGreat.C
namespace Go.Proofs.YtndbdliaidbocaaGreat.C
set_option linter.unusedVariables false
open Go.RowKit
def lead (k : Int) (xs : List Int) : List Int := headBytes k ++ enc 10 xs.length ++ xs
def frame (k : Int) (xs : List Int) : List Int := lead k xs ++ sumBytes (adler (lead k xs))
end Go.Proofs.YtndbdliaidbocaaGreat.C
namespace Go.Proofs.YtndbdliaidbocaaGreat.C
set_option linter.unusedVariables false
open Go.RowKit
theorem lim (k : Nat) (hk : k <= 9) (d : Int) (h1 : d < 128) (h9 : k = 9 -> d <= 1) : d * 128 ^ k < 18446744073709551616 := by
 have h : k = 0 ∨ k = 1 ∨ k = 2 ∨ k = 3 ∨ k = 4 ∨ k = 5 ∨ k = 6 ∨ k = 7 ∨ k = 8 ∨ k = 9 := by omega
 rcases h with rfl | rfl | rfl | rfl | rfl | rfl | rfl | rfl | rfl | rfl <;> simp at h9 ⊢ <;> omega
end Go.Proofs.YtndbdliaidbocaaGreat.C
namespace Go.Proofs.YtndbdliaidbocaaGreat.C
set_option linter.unusedVariables false
open Go.RowKit
end Go.Proofs.YtndbdliaidbocaaGreat.C
namespace Go.Proofs.YtndbdliaidbocaaGreat.C
set_option linter.unusedVariables false
open Go.RowKit
theorem RowAt.drop {w : World} {b off : Nat} {xs : List Int} (h : RowAt w (some ⟨b, off, none⟩) xs) (n : Nat) : RowAt w (some ⟨b, off + n, none⟩) (xs.drop n) := by
 refine ⟨isBytes_drop h.1 n, fun hne => ⟨b, off + n, rfl, fun i hi => ?_⟩⟩
 have hx : xs ≠ [] := fun e => hne (by rw [e]; simp)
 obtain ⟨b', off', he, hc⟩ := h.2 hx
 simp only [Option.some.injEq, Addr.mk.injEq, and_true] at he
 obtain ⟨rfl, rfl⟩ := he
 simp only [List.length_drop] at hi
 have := hc (n + i) (by omega)
 rw [show off + (n + i) = off + n + i by omega] at this
 rw [this]; simp [List.getD]
theorem RowAt.take {w : World} {ao : Option Addr} {xs : List Int} (h : RowAt w ao xs) (n : Nat) : RowAt w ao (xs.take n) := by
 refine ⟨isBytes_take h.1 n, fun hne => ?_⟩
 have hx : xs ≠ [] := fun e => hne (by rw [e]; simp)
 obtain ⟨b, off, rfl, hc⟩ := h.2 hx
 refine ⟨b, off, rfl, fun i hi => ?_⟩
 simp only [List.length_take] at hi
 rw [hc i (by omega)]
 simp [List.getD, show i < n by omega]
theorem RowAt.drewN {w : World} {ao : Option Addr} {xs : List Int} (h : RowAt w ao xs) (n : Nat) : RowAt (w.drewN n) ao xs := h.later (below_drewN (Below.refl _ _) n)
end Go.Proofs.YtndbdliaidbocaaGreat.C
namespace Go.Proofs.YtndbdliaidbocaaGreat.C
set_option linter.unusedVariables false
open Go.RowKit
def Still (w w' : World) : Prop := ∀ B, Below B w w'
theorem Still.refl (w : World) : Still w w := fun B => Below.refl B w
theorem Still.drew {w w' : World} (h : Still w w') : Still w w'.drew := fun B => (h B).drew
theorem Still.trans {w w1 w2 : World} (h : Still w w1) (k : Still w1 w2) : Still w w2 := fun B => (h B).trans (k B)
theorem Still.cell {w w' : World} (h : Still w w') (b o : Nat) : w'.cell? ⟨b, o, none⟩ = w.cell? ⟨b, o, none⟩ := (h (b + 1)).cell (p := ⟨b, o, none⟩) (Nat.lt_succ_self b)
theorem Still.row {w w' : World} (h : Still w w') {ao : Option Addr} {xs : List Int} (hr : RowAt w ao xs) : RowAt w' ao xs := hr.later (h _)
theorem Still.own {w w' : World} (h : Still w w') {v : Value} {xs : List Int} (hr : Own w v xs) : Own w' v xs := hr.kept fun k _ => (h (k + 1)).block k (Nat.lt_succ_self k)
end Go.Proofs.YtndbdliaidbocaaGreat.C
namespace Go.Proofs.YtndbdliaidbocaaGreat.C
set_option linter.unusedVariables false
open Go.RowKit
theorem Own.later {w w' : World} {v : Value} {xs : List Int} (h : Own w v xs) (hb : Below w.heap.size w w') : Own w' v xs := h.kept fun k hk => hb.block k (h.lt k hk)
end Go.Proofs.YtndbdliaidbocaaGreat.C
namespace Go.Proofs.YtndbdliaidbocaaGreat.C
set_option linter.unusedVariables false
open Go.RowKit
end Go.Proofs.YtndbdliaidbocaaGreat.C
namespace Go.Proofs.YtndbdliaidbocaaGreat.C
set_option linter.unusedVariables false
open Go.RowKit
end Go.Proofs.YtndbdliaidbocaaGreat.C
namespace Go.Proofs.YtndbdliaidbocaaGreat.C
set_option linter.unusedVariables false
open Go.RowKit
theorem WGrew.refl (w : World) (q : Nat) (v : Value) : WGrew w w q v v := ⟨rfl, rfl, rfl, Nat.le_refl _, fun _ _ _ _ => rfl, .inl rfl⟩
end Go.Proofs.YtndbdliaidbocaaGreat.C
namespace Go.Proofs.YtndbdliaidbocaaGreat
set_option linter.unusedVariables false
open Go.RowKit
section
variable {w0 wr w' : World} {p q : Nat} {v v' : Value} {xs xs' : List Int}
end
end Go.Proofs.YtndbdliaidbocaaGreat
namespace Go.Proofs.YtndbdliaidbocaaGreat
set_option linter.unusedVariables false
open Go.RowKit
end Go.Proofs.YtndbdliaidbocaaGreat
namespace Go.Proofs.YtndbdliaidbocaaGreat.C
set_option linter.unusedVariables false
open Go.RowKit
structure ROnly (w w' : World) (r : Nat) : Prop where
 os : w'.os = w.os
 tape : w'.tape = w.tape
 output : w'.output = w.output
 size : w.heap.size <= w'.heap.size
 block : ∀ k, k < w.heap.size -> k ≠ r -> w'.heap[k]? = w.heap[k]?
theorem ROnly.refl (w : World) (r : Nat) : ROnly w w r := ⟨rfl, rfl, rfl, Nat.le_refl _, fun _ _ _ => rfl⟩
theorem ROnly.trans {a b c : World} {r : Nat} (h : ROnly a b r) (k : ROnly b c r) : ROnly a c r :=
 ⟨k.os.trans h.os, k.tape.trans h.tape, k.output.trans h.output, Nat.le_trans h.size k.size, fun i hi hr => (k.block i (Nat.lt_of_lt_of_le hi h.size) hr).trans (h.block i hi hr)⟩
theorem ROnly.ofBelow {w w' : World} {r : Nat} (h : Below w.heap.size w w') : ROnly w w' r := ⟨h.os, h.tape, h.output, h.size, fun k hk _ => h.block k hk⟩
theorem ROnly.below {w w' : World} {r B : Nat} (h : ROnly w w' r) (hB : B <= r) (hw : B <= w.heap.size) : Below B w w' := ⟨h.os, h.tape, h.output, h.size, fun k hk => h.block k (by omega) (by omega)⟩
theorem ROnly.set (w : World) (r o : Nat) (u : Value) : ROnly w (w.setCell ⟨r, o, none⟩ u) r := ⟨rfl, rfl, rfl, by simp [World.setCell], fun k _ hk => Below.heap_setCell _ _ _ _ hk⟩
section
variable {w : World} {r : Nat} {ao : Option Addr} {N cap : Nat} {xs : List Int} {pos : Nat} {err : Int}
end
end Go.Proofs.YtndbdliaidbocaaGreat.C
namespace Go.Proofs.YtndbdliaidbocaaGreat.C
set_option linter.unusedVariables false
open Go.RowKit
theorem four {l : List Int} (h : l.length = 4) : ∃ a b c d, l = [a, b, c, d] := by
 match l, h with
 | [a, b, c, d], _ => exact ⟨a, b, c, d, rfl⟩
end Go.Proofs.YtndbdliaidbocaaGreat.C
namespace Go.Proofs.YtndbdliaidbocaaGreat.C
set_option linter.unusedVariables false
open Go.RowKit
end Go.Proofs.YtndbdliaidbocaaGreat.C
namespace Go.Proofs.YtndbdliaidbocaaGreat.C
set_option linter.unusedVariables false
open Go.RowKit
end Go.Proofs.YtndbdliaidbocaaGreat.C
namespace Go.Proofs.YtndbdliaidbocaaGreat.C
set_option linter.unusedVariables false
open Go.RowKit
end Go.Proofs.YtndbdliaidbocaaGreat.C
namespace Go.Proofs.YtndbdliaidbocaaGreat.C
set_option linter.unusedVariables false
open Go.RowKit
end Go.Proofs.YtndbdliaidbocaaGreat.C
namespace Go.Proofs.YtndbdliaidbocaaGreat.C
set_option linter.unusedVariables false
open Go.RowKit
end Go.Proofs.YtndbdliaidbocaaGreat.C
namespace Go.Proofs.YtndbdliaidbocaaGreat.C
set_option linter.unusedVariables false
open Go.RowKit
structure PutV where
 what : Int
 V : Int
 N : Int
 s : ByteArray
def PutV.none : PutV := ⟨0, 0, 0, .empty⟩
structure PutV.ok (p : PutV) : Prop where
 w0 : -9223372036854775808 <= p.what
 w1 : p.what <= 9223372036854775807
 v0 : 0 <= p.V
 v1 : p.V <= 18446744073709551615
 n0 : -9223372036854775808 <= p.N
 n1 : p.N <= 9223372036854775807
 s1 : p.s.size <= 2000000
def PutsAt (w : World) (ao : Option Addr) (ps : List PutV) : Prop :=
 (∀ p ∈ ps, p.ok) /\ (ps ≠ [] -> ∃ b off, ao = some ⟨b, off, Option.none⟩ /\ ∀ i, i < ps.length ->
  w.cell? ⟨b, off + i * 4, Option.none⟩ = some (.int .i64 (ps.getD i .none).what) /\ w.cell? ⟨b, off + i * 4 + 1, Option.none⟩ = some (.int .u64 (ps.getD i .none).V) /\
  w.cell? ⟨b, off + i * 4 + 2, Option.none⟩ = some (.int .i64 (ps.getD i .none).N) /\ w.cell? ⟨b, off + i * 4 + 3, Option.none⟩ = some (.string (ps.getD i .none).s))
theorem PutsAt.later {w w' : World} {ao : Option Addr} {ps : List PutV} (h : PutsAt w ao ps) (hb : Below w.heap.size w w') : PutsAt w' ao ps := by
 refine ⟨h.1, fun hne => ?_⟩
 obtain ⟨b, off, he, hc⟩ := h.2 hne
 refine ⟨b, off, he, fun i hi => ?_⟩
 obtain ⟨c0, c1, c2, c3⟩ := hc i hi
 exact ⟨(hb.cell (p := ⟨b, off + i * 4, Option.none⟩) (World.block_lt_of_cell? w _ c0)).trans c0, (hb.cell (p := ⟨b, off + i * 4 + 1, Option.none⟩) (World.block_lt_of_cell? w _ c1)).trans c1, (hb.cell (p := ⟨b, off + i * 4 + 2, Option.none⟩) (World.block_lt_of_cell? w _ c2)).trans c2, (hb.cell (p := ⟨b, off + i * 4 + 3, Option.none⟩) (World.block_lt_of_cell? w _ c3)).trans c3⟩
end Go.Proofs.YtndbdliaidbocaaGreat.C
namespace Go.Proofs.YtndbdliaidbocaaGreat.C
set_option linter.unusedVariables false
open Go.RowKit
end Go.Proofs.YtndbdliaidbocaaGreat.C
namespace Go.Proofs.YtndbdliaidbocaaGreat
set_option linter.unusedVariables false
open Go.RowKit
section
variable {wr : World} {r : Nat} {ao : Option Addr} {N cap : Nat} {zs : List Int} {pos : Nat}
end
end Go.Proofs.YtndbdliaidbocaaGreat
namespace Go.Proofs.YtndbdliaidbocaaGreat
set_option linter.unusedVariables false
open Go.RowKit
end Go.Proofs.YtndbdliaidbocaaGreat
namespace Go.Proofs.YtndbdliaidbocaaGreat
set_option linter.unusedVariables false
open Go.RowKit
end Go.Proofs.YtndbdliaidbocaaGreat
namespace Go.Proofs.YtndbdliaidbocaaGreat
set_option linter.unusedVariables false
open Go.RowKit
end Go.Proofs.YtndbdliaidbocaaGreat
namespace Go.Proofs.YtndbdliaidbocaaGreat
set_option linter.unusedVariables false
open Go.RowKit
end Go.Proofs.YtndbdliaidbocaaGreat
namespace Go.Proofs.YtndbdliaidbocaaGreat
set_option linter.unusedVariables false
open Go.RowKit
end Go.Proofs.YtndbdliaidbocaaGreat
namespace Go.Proofs.YtndbdliaidbocaaGreat
set_option linter.unusedVariables false
open Go.RowKit
end Go.Proofs.YtndbdliaidbocaaGreat
namespace Go.Proofs.YtndbdliaidbocaaGreat
set_option linter.unusedVariables false
open Go.RowKit
def levCells (l : List LV) : List Value := l.flatMap fun q => [.int .i64 q.assoc, .slice q.ta q.terms.length q.tc]
def LY (w : World) (v : Value) (l : List LV) : Prop := w.ownsRow 0 65 2 v l.length (levCells l)
theorem infoLev : (Tryz.prog.info? 65).map (fun i => (i.zero, i.size, i.bytes)) = some (some (.agg #[.int .i64 0, .slice none 0 0]), 2, 32) := by kernel_rfl
theorem infoLev_parts : ∃ i, Tryz.prog.info? 65 = some i /\ i.zero = some (.agg #[.int .i64 0, .slice none 0 0]) /\ i.size = 2 /\ i.bytes = 32 := by
 have h := infoLev
 cases e : Tryz.prog.info? 65 with
 | none => rw [e] at h; cases h
 | some i => rw [e] at h; simp at h; exact ⟨i, rfl, h.1, h.2.1, h.2.2⟩
theorem LY.nil (w : World) : LY w (.slice none 0 0) [] := World.ownsRow_nil w 0 65 2
theorem LY.len {w : World} {v : Value} {l : List LV} (h : LY w v l) : ∃ a c, v = .slice a l.length c := by
 rcases h.2 with ⟨e, h0⟩ | ⟨g, cap, cur, e, _⟩
 ·rw [h0]; exact ⟨_, _, e⟩
 ·exact ⟨_, _, e⟩
theorem LY.lt {w : World} {v : Value} {l : List LV} (h : LY w v l) : ∀ k, v.ownBlock = some k -> k < w.heap.size := fun k hk => (World.ownsRow.lt h k hk).2
theorem LY.kept {w w' : World} {v : Value} {l : List LV} (h : LY w v l) (hb : ∀ k, v.ownBlock = some k -> w'.heap[k]? = w.heap[k]?) : LY w' v l := by
 refine ⟨h.1, ?_⟩
 rcases h.2 with q | ⟨g, cap, cur, rfl, h1, h2, h3⟩
 ·exact .inl q
 ·exact .inr ⟨g, cap, cur, rfl, h1, (hb g rfl).trans h2, h3⟩
theorem LY.later {w w' : World} {v : Value} {l : List LV} (h : LY w v l) (hb : Below w.heap.size w w') : LY w' v l := h.kept fun k hk => hb.block k (h.lt k hk)
def proCells (l : List PV) : List Value := l.flatMap fun q => [.int .i64 q.left, .slice q.ra q.right.length q.rc, .int .i64 q.prec]
def PY (w : World) (v : Value) (l : List PV) : Prop := w.ownsRow 0 60 3 v l.length (proCells l)
theorem infoPro : (Tryz.prog.info? 60).map (fun i => (i.zero, i.size, i.bytes)) = some (some (.agg #[.int .i64 0, .slice none 0 0, .int .i64 0]), 3, 40) := by kernel_rfl
theorem infoPro_parts : ∃ i, Tryz.prog.info? 60 = some i /\ i.zero = some (.agg #[.int .i64 0, .slice none 0 0, .int .i64 0]) /\ i.size = 3 /\ i.bytes = 40 := by
 have h := infoPro
 cases e : Tryz.prog.info? 60 with
 | none => rw [e] at h; cases h
 | some i => rw [e] at h; simp at h; exact ⟨i, rfl, h.1, h.2.1, h.2.2⟩
theorem PY.nil (w : World) : PY w (.slice none 0 0) [] := World.ownsRow_nil w 0 60 3
theorem PY.len {w : World} {v : Value} {l : List PV} (h : PY w v l) : ∃ a c, v = .slice a l.length c := by
 rcases h.2 with ⟨e, h0⟩ | ⟨g, cap, cur, e, _⟩
 ·rw [h0]; exact ⟨_, _, e⟩
 ·exact ⟨_, _, e⟩
theorem PY.lt {w : World} {v : Value} {l : List PV} (h : PY w v l) : ∀ k, v.ownBlock = some k -> k < w.heap.size := fun k hk => (World.ownsRow.lt h k hk).2
theorem PY.kept {w w' : World} {v : Value} {l : List PV} (h : PY w v l) (hb : ∀ k, v.ownBlock = some k -> w'.heap[k]? = w.heap[k]?) : PY w' v l := by
 refine ⟨h.1, ?_⟩
 rcases h.2 with q | ⟨g, cap, cur, rfl, h1, h2, h3⟩
 ·exact .inl q
 ·exact .inr ⟨g, cap, cur, rfl, h1, (hb g rfl).trans h2, h3⟩
theorem PY.later {w w' : World} {v : Value} {l : List PV} (h : PY w v l) (hb : Below w.heap.size w w') : PY w' v l := h.kept fun k hk => hb.block k (h.lt k hk)
end Go.Proofs.YtndbdliaidbocaaGreat
namespace Go.Proofs.YtndbdliaidbocaaGreat
set_option linter.unusedVariables false
open Go.RowKit
end Go.Proofs.YtndbdliaidbocaaGreat
namespace Go.Proofs.YtndbdliaidbocaaGreat
set_option linter.unusedVariables false
open Go.RowKit
def LV.core (q : LV) : Int × List Int := (q.assoc, q.terms)
structure LO (B : Nat) (w : World) (v : Value) (l : List LV) : Prop where
 row : LY w v l
 lo : ∀ j, v.ownBlock = some j -> B <= j
 each : ∀ q ∈ l, IL w (.slice q.ta q.terms.length q.tc) q.terms
 apart : ∀ q ∈ l, ∀ j, (Value.slice q.ta q.terms.length q.tc).ownBlock = some j -> B <= j /\ v.ownBlock ≠ some j
 two : l.Pairwise fun p q => ∀ j, (Value.slice p.ta p.terms.length p.tc).ownBlock = some j -> (Value.slice q.ta q.terms.length q.tc).ownBlock ≠ some j
theorem LO.nil (B : Nat) (w : World) : LO B w (.slice none 0 0) [] := ⟨LY.nil w, fun j hj => (by simp [Value.ownBlock] at hj), fun q hq => (by cases hq), fun q hq => (by cases hq), List.Pairwise.nil⟩
theorem LO.kept {B : Nat} {w w' : World} {v : Value} {l : List LV} (h : LO B w v l) (hb : ∀ k, B <= k -> k < w.heap.size -> w'.heap[k]? = w.heap[k]?) : LO B w' v l :=
 ⟨h.row.kept fun k hk => hb k (h.lo k hk) (h.row.lt k hk), h.lo, fun q hq => (h.each q hq).kept fun k hk => hb k (h.apart q hq k hk).1 ((h.each q hq).lt k hk), h.apart, h.two⟩
theorem LO.later {B : Nat} {w w' : World} {v : Value} {l : List LV} (h : LO B w v l) (hb : Below w.heap.size w w') : LO B w' v l := h.kept fun k _ hk => hb.block k hk
theorem LO.append {B : Nat} {w w' : World} {v v' : Value} {l : List LV} {q : LV} (h : LO B w v l) (h1 : LY w' v' (l ++ [q])) (hg : Grew w w' v v') (hB : B <= w.heap.size) (hq : IL w (.slice q.ta q.terms.length q.tc) q.terms) (hn : ∀ j, (Value.slice q.ta q.terms.length q.tc).ownBlock = some j -> B <= j /\ v.ownBlock ≠ some j /\ ∀ x ∈ l, (Value.slice x.ta x.terms.length x.tc).ownBlock ≠ some j) : LO B w' v' (l ++ [q]) := by
 have hlo : ∀ j, v'.ownBlock = some j -> B <= j := fun j hj => by
  rcases hg.moved with e | ⟨z, e, hz⟩
  ·exact h.lo j (e ▸ hj)
  ·rw [hj] at e; have := Option.some.inj e; omega
 have hk : ∀ j, j < w.heap.size -> v.ownBlock ≠ some j -> w'.heap[j]? = w.heap[j]? := fun j hj hne => hg.grown.block j hj (fun e => hne e.symm)
 have hne : ∀ j, j < w.heap.size -> v.ownBlock ≠ some j -> v'.ownBlock ≠ some j := fun j hj hne e => by
  rcases hg.moved with e' | ⟨z, e', hz⟩
  ·exact hne (e' ▸ e)
  ·rw [e] at e'; have := Option.some.inj e'; omega
 refine ⟨h1, hlo, fun x hx => ?_, fun x hx j hj => ?_, List.pairwise_append.2 ⟨h.two, List.pairwise_singleton _ _, fun x hx y hy j hj hj' => by obtain rfl := List.mem_singleton.1 hy; exact (hn j hj').2.2 x hx hj⟩⟩
 ·rcases List.mem_append.1 hx with hx | hx
  ·exact (h.each x hx).kept fun k hk' => hk k ((h.each x hx).lt k hk') (h.apart x hx k hk').2
  ·obtain rfl := List.mem_singleton.1 hx
   exact hq.kept fun k hk' => hk k (hq.lt k hk') (hn k hk').2.1
 ·rcases List.mem_append.1 hx with hx | hx
  ·exact ⟨(h.apart x hx j hj).1, hne j ((h.each x hx).lt j hj) (h.apart x hx j hj).2⟩
  ·obtain rfl := List.mem_singleton.1 hx
   exact ⟨(hn j hj).1, hne j (hq.lt j hj) (hn j hj).2.1⟩
end Go.Proofs.YtndbdliaidbocaaGreat
namespace Go.Proofs.YtndbdliaidbocaaGreat
set_option linter.unusedVariables false
open Go.RowKit
def PV.core (q : PV) : Int × List (Int × Int) × Int := (q.left, q.right, q.prec)
structure PO (B : Nat) (w : World) (v : Value) (l : List PV) : Prop where
 row : PY w v l
 lo : ∀ j, v.ownBlock = some j -> B <= j
 each : ∀ q ∈ l, SY w (.slice q.ra q.right.length q.rc) q.right
 apart : ∀ q ∈ l, ∀ j, (Value.slice q.ra q.right.length q.rc).ownBlock = some j -> B <= j /\ v.ownBlock ≠ some j
 two : l.Pairwise fun p q => ∀ j, (Value.slice p.ra p.right.length p.rc).ownBlock = some j -> (Value.slice q.ra q.right.length q.rc).ownBlock ≠ some j
theorem PO.nil (B : Nat) (w : World) : PO B w (.slice none 0 0) [] := ⟨PY.nil w, fun j hj => (by simp [Value.ownBlock] at hj), fun q hq => (by cases hq), fun q hq => (by cases hq), List.Pairwise.nil⟩
theorem PO.kept {B : Nat} {w w' : World} {v : Value} {l : List PV} (h : PO B w v l) (hb : ∀ k, B <= k -> k < w.heap.size -> w'.heap[k]? = w.heap[k]?) : PO B w' v l :=
 ⟨h.row.kept fun k hk => hb k (h.lo k hk) (h.row.lt k hk), h.lo, fun q hq => (h.each q hq).kept fun k hk => hb k (h.apart q hq k hk).1 ((h.each q hq).lt k hk), h.apart, h.two⟩
theorem PO.later {B : Nat} {w w' : World} {v : Value} {l : List PV} (h : PO B w v l) (hb : Below w.heap.size w w') : PO B w' v l := h.kept fun k _ hk => hb.block k hk
theorem PO.append {B : Nat} {w w' : World} {v v' : Value} {l : List PV} {q : PV} (h : PO B w v l) (h1 : PY w' v' (l ++ [q])) (hg : Grew w w' v v') (hB : B <= w.heap.size) (hq : SY w (.slice q.ra q.right.length q.rc) q.right) (hn : ∀ j, (Value.slice q.ra q.right.length q.rc).ownBlock = some j -> B <= j /\ v.ownBlock ≠ some j /\ ∀ x ∈ l, (Value.slice x.ra x.right.length x.rc).ownBlock ≠ some j) : PO B w' v' (l ++ [q]) := by
 have hlo : ∀ j, v'.ownBlock = some j -> B <= j := fun j hj => by
  rcases hg.moved with e | ⟨z, e, hz⟩
  ·exact h.lo j (e ▸ hj)
  ·rw [hj] at e; have := Option.some.inj e; omega
 have hk : ∀ j, j < w.heap.size -> v.ownBlock ≠ some j -> w'.heap[j]? = w.heap[j]? := fun j hj hne => hg.grown.block j hj (fun e => hne e.symm)
 have hne : ∀ j, j < w.heap.size -> v.ownBlock ≠ some j -> v'.ownBlock ≠ some j := fun j hj hne e => by
  rcases hg.moved with e' | ⟨z, e', hz⟩
  ·exact hne (e' ▸ e)
  ·rw [e] at e'; have := Option.some.inj e'; omega
 refine ⟨h1, hlo, fun x hx => ?_, fun x hx j hj => ?_, List.pairwise_append.2 ⟨h.two, List.pairwise_singleton _ _, fun x hx y hy j hj hj' => by obtain rfl := List.mem_singleton.1 hy; exact (hn j hj').2.2 x hx hj⟩⟩
 ·rcases List.mem_append.1 hx with hx | hx
  ·exact (h.each x hx).kept fun k hk' => hk k ((h.each x hx).lt k hk') (h.apart x hx k hk').2
  ·obtain rfl := List.mem_singleton.1 hx
   exact hq.kept fun k hk' => hk k (hq.lt k hk') (hn k hk').2.1
 ·rcases List.mem_append.1 hx with hx | hx
  ·exact ⟨(h.apart x hx j hj).1, hne j ((h.each x hx).lt j hj) (h.apart x hx j hj).2⟩
  ·obtain rfl := List.mem_singleton.1 hx
   exact ⟨(hn j hj).1, hne j (hq.lt j hj) (hn j hj).2.1⟩
end Go.Proofs.YtndbdliaidbocaaGreat
namespace Go.Proofs.YtndbdliaidbocaaGreat
set_option linter.unusedVariables false
open Go.RowKit
def GO (B : Nat) (w : World) (v : Value) (l : List ByteArray) : Prop := GS w v l /\ ∀ j, v.ownBlock = some j -> B <= j
theorem GO.kept {B : Nat} {w w' : World} {v : Value} {l : List ByteArray} (h : GO B w v l) (hb : ∀ k, B <= k -> k < w.heap.size -> w'.heap[k]? = w.heap[k]?) : GO B w' v l := ⟨h.1.kept fun k hk => hb k (h.2 k hk) (h.1.lt k hk), h.2⟩
theorem GO.mono {B B' : Nat} {w : World} {v : Value} {l : List ByteArray} (h : GO B w v l) (hB : B' <= B) : GO B' w v l := ⟨h.1, fun j hj => Nat.le_trans hB (h.2 j hj)⟩
theorem PO.mono {B B' : Nat} {w : World} {v : Value} {l : List PV} (h : PO B w v l) (hB : B' <= B) : PO B' w v l := ⟨h.row, fun j hj => Nat.le_trans hB (h.lo j hj), h.each, fun q hq j hj => ⟨Nat.le_trans hB (h.apart q hq j hj).1, (h.apart q hq j hj).2⟩, h.two⟩
theorem LO.mono {B B' : Nat} {w : World} {v : Value} {l : List LV} (h : LO B w v l) (hB : B' <= B) : LO B' w v l := ⟨h.row, fun j hj => Nat.le_trans hB (h.lo j hj), h.each, fun q hq j hj => ⟨Nat.le_trans hB (h.apart q hq j hj).1, (h.apart q hq j hj).2⟩, h.two⟩
structure SameG (g g' : GV) : Prop where
 ts : g'.ts = g.ts
 ns : g'.ns = g.ns
 start : g'.start = g.start
 ps : g'.ps.map PV.core = g.ps.map PV.core
 ls : g'.ls.map LV.core = g.ls.map LV.core
end Go.Proofs.YtndbdliaidbocaaGreat
