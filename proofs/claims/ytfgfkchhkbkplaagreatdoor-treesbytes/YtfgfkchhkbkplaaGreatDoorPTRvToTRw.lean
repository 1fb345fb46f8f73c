import Derived.Test.YtfgfkchhkbkplaaGreatDoorPTD3ToTSm
import Derived.Test.YtfgfkchhkbkplaaGreatDoorPGT0ToGT6
import Derived.Shelf.SlicesG.Reverse
import Derived.Test.YtfgfkchhkbkplaaGreatDoorPTW5ToTW6
namespace Go.Proofs.YtfgfkchhkbkplaaGreatDoor
set_option linter.unusedVariables false
open Go.RowKit Go.Shelf Go.Sort
open Go.RowKit
def inC8 (z : Int) : List Value := [.int .i64 z]
abbrev ILo := RO 3 1 inC8
theorem ILo.row {w : World} {a : Option Addr} {n c : Nat} {l : List Int} (h : ILo w (.slice a n c) l) : n = l.length /\ InRow w a l := by
 obtain ⟨a', c', e, _⟩ := RO.len h
 simp only [Value.slice.injEq] at e
 obtain ⟨rfl, rfl, rfl⟩ := e
 refine ⟨rfl, fun hne => ?_⟩
 obtain ⟨b, cb, e, -, -⟩ := RO.cell (f := inC8) (k := 1) (fun _ => rfl) h (List.length_pos_iff.2 hne)
 simp only [Value.slice.injEq, true_and] at e
 obtain ⟨rfl, rfl⟩ := e
 refine ⟨b, 0, rfl, h.lt b rfl, fun i hi => ?_⟩
 obtain ⟨b', c', e, _, hc⟩ := RO.cell (f := inC8) (k := 1) (fun _ => rfl) h hi
 simp only [Value.slice.injEq, Option.some.injEq, Addr.mk.injEq, true_and, and_true] at e
 obtain ⟨rfl, rfl⟩ := e
 have := hc 0 (by omega)
 simp only [inC8, List.getElem?_cons_zero, Nat.mul_one, Nat.add_zero] at this
 rw [Nat.zero_add, this]
 simp [List.getD, hi]
structure ISt (w0 : World) (yb : Nat) (L : List Int) (w : World) : Prop where
 bel : Below w0.heap.size w0 w
 yn : w0.heap.size <= yb
 bx : ∃ vo, w.heap[yb]? = some (.cells #[vo] 75) /\ ILo w vo L /\ ∀ j, vo.ownBlock = some j -> w0.heap.size <= j
theorem ISt.still {w0 : World} {yb : Nat} {L : List Int} {w w' : World} (h : ISt w0 yb L w) (hn : NoStp w0.heap.size w w') : ISt w0 yb L w' := by
 obtain ⟨vo, h1, h2, h3⟩ := h.bx
 exact ⟨hn.bel h.bel, h.yn, vo, hn.keep _ _ h1 (fun ⟨_, s⟩ => not_stp (by decide) s), h2.noStp hn (by decide), h3⟩
def inS8 (yb : Nat) (vo : Value) (p q : Nat) (z : Int) (w : World) : Prop := w.cell? ⟨yb, 0, none⟩ = some vo /\ w.cell? ⟨p, q, none⟩ = some (.int .i64 z)
theorem inS8.later {yb : Nat} {vo : Value} {p q : Nat} {z : Int} {w w' : World} (h : inS8 yb vo p q z w) (hb : Below w.heap.size w w') : inS8 yb vo p q z w' := ⟨cellW hb h.1, cellW hb h.2⟩
end Go.Proofs.YtfgfkchhkbkplaaGreatDoor
