import Derived.Test.YtndbdliaidbocaaPTW7
namespace Go.Proofs.Ytndbdliaidbocaa
set_option linter.unusedVariables false
open Go.RowKit
def enA (D : List EV) : List (Nat × Nat × TV) := (D.filter (·.en)).map fun x => (x.p, x.q, x.t)
theorem enA_app (D R : List EV) : enA (D ++ R) = enA D ++ enA R := by simp [enA]
theorem enA_in (p q : Nat) (t : TV) : enA [⟨true, p, q, t⟩] = [(p, q, t)] := rfl
theorem enA_out (p q : Nat) (t : TV) : enA [⟨false, p, q, t⟩] = [] := rfl
abbrev ptBox (v : Option Addr) : Obj := .cells #[.pointer v] 45
structure FSt (w0 : World) (b : Nat) (place : Int) (D : List EV) (w : World) : Prop where
 bel : Below w0.heap.size w0 w
 yn : w0.heap.size <= b
 pl : w.heap[b]? = some (iBox place)
 fd : w.heap[b + 1]? = some (ptBox none)
 nb : w.heap[b + 2]? = some (iBox ((enE D).length : Int))
 no : ∀ i : Nat, i < (enE D).length -> place ≠ (i : Int)
theorem FSt.still {w0 : World} {b : Nat} {place : Int} {D : List EV} {w w' : World} (h : FSt w0 b place D w) (hn : NoStp w0.heap.size w w') : FSt w0 b place D w' :=
 ⟨hn.bel h.bel, h.yn, hn.keep _ _ h.pl (fun ⟨_, s⟩ => not_stp (by decide) s), hn.keep _ _ h.fd (fun ⟨_, s⟩ => not_stp (by decide) s), hn.keep _ _ h.nb (fun ⟨_, s⟩ => not_stp (by decide) s), h.no⟩
theorem onStp_box {N : Nat} {wb w : World} {b : Nat} {cs : Array Value} {ty : TypeId} {v : Value} (h : OnStp N wb w) (hb : w.heap[b]? = some (.cells cs ty)) (ht : (ty == 76) = false) : OnStp N wb (w.setCell ⟨b, 0, none⟩ v) := by
 refine ⟨?_, fun j o hj hN hs => ?_⟩
 ·have h3 : (w.setCell ⟨b, 0, none⟩ v).heap.size = w.heap.size := by simp [World.setCell]
  have := h.size
  omega
 ·have h1 := h.keep j o hj hN hs
  rw [Below.heap_setCell _ _ _ _ (show j ≠ b from fun e => ?_), h1]
  subst e
  rw [hb] at h1
  cases h1
  exact not_stp ht hs
end Go.Proofs.Ytndbdliaidbocaa
