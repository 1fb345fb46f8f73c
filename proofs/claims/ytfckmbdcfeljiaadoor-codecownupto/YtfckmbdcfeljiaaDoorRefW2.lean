import Derived.Test.YtfckmbdcfeljiaaDoorRefW
import Derived.Test.YtfckmbdcfeljiaaDoorBack0
namespace Go.Proofs.YtfckmbdcfeljiaaDoor
set_option linter.unusedVariables false
open Go.RowKit

theorem wpList_own_append_str {ops : Array Oper} {rest : List Oper} {o : Oper} {a : Act} {Q : Exit → Act → World → Prop} {w : World} (hgd : o.guard = none) (s x : Operand)
    (ho : o.op = .call { callee := .builtin .append, args := #[s, x], argTypes := #[22, 9] })
    (v : Value) (xs : List Int) (hs : a.eval s = v) (h : Own w v xs) (str : ByteArray) (hx : a.eval x = .string str) (hlen : xs.length + str.size ≤ 140737488355328)
    (hK : ∀ v' w', Own w' v' (xs ++ strBytes str) → Grew w w' v v' → wpList Tryd.prog ops Q rest (a.put o.dst v') w') : wpList Tryd.prog ops Q (o :: rest) a w := by
  refine wpList_plain hgd fun K hK' => ?_
  obtain ⟨v', w', hrun, h2, h3⟩ := run_own_append_str w o.type v xs h str hlen
  unfold Oper.wp execOp
  simp only [ho, resolve, invoke, builtin, Sem.run_bind, Sem.run_pure, Result.andThen_ok, List.map_toArray, List.map_cons, List.map_nil, hs, hx, hrun]
  exact hK' _ _ (hK v' w' h2 h3)

theorem cell2a {w : World} {b : Nat} {x y : Value} {t : TypeId} (h : w.heap[b]? = some (.cells #[x, y] t (0, 0))) : w.cell? ⟨b, 0, none⟩ = some x := by simp [World.cell?, h]
theorem free2a {w : World} {b : Nat} {x y : Value} {t : TypeId} (h : w.heap[b]? = some (.cells #[x, y] t (0, 0))) : w.frozen? ⟨b, 0, none⟩ = false := by simp [World.frozen?, h]
def flagN (b : Bool) : Int := if b then 1 else 0
theorem wflag {w : World} {p q : Nat} {v : Value} {xs : List Int} {err : Int} (b : Bool) (h : WInv w p q v xs err) (hl : xs.length ≤ 140737488355300) (xs' : List Int) (hx : xs' = if err = 0 then xs ++ enc 10 (flagN b) else xs) :
    Calls Tryd.prog 55 #[.pointer (some ⟨p, 0, none⟩), .bool b] w (WEnds p q v xs' err w) := by
  cases b
  · have HX : Hid (xs' = if err = 0 then xs ++ enc 10 0 else xs) := hx
    clear hx
    go_enter Tryd.func55, Tryd.ntmps55
    go_wp2_with (go_at_call 20; refine (wnumber 0 h (by decide) (by decide) hl xs' HX.out).mono ?_; rintro e w' ⟨rfl, v', r1, r2⟩)
    go_end0
    exact ⟨rfl, v', r1, r2⟩
  · have HX : Hid (xs' = if err = 0 then xs ++ enc 10 1 else xs) := hx
    clear hx
    go_enter Tryd.func55, Tryd.ntmps55
    go_wp2_with (go_at_call 20; refine (wnumber 1 h (by decide) (by decide) hl xs' HX.out).mono ?_; rintro e w' ⟨rfl, v', r1, r2⟩)
    go_end0
    exact ⟨rfl, v', r1, r2⟩
theorem WGrew.trans {w w1 w2 : World} {q : Nat} {v v1 v2 : Value} (h : WGrew w w1 q v v1) (k : WGrew w1 w2 q v1 v2) : WGrew w w2 q v v2 := by
  refine ⟨k.os.trans h.os, k.tape.trans h.tape, k.output.trans h.output, Nat.le_trans h.size k.size, fun i hi hq hne => ?_, ?_⟩
  · refine (k.block i (Nat.lt_of_lt_of_le hi h.size) hq ?_).trans (h.block i hi hq hne)
    rcases h.moved with e | ⟨z, e, hz⟩
    · rw [e]; exact hne
    · rw [e]; intro e'; have := Option.some.inj e'; omega
  · rcases k.moved with e | ⟨z, e, hz⟩
    · rw [e]; exact h.moved
    · exact .inr ⟨z, e, Nat.le_trans h.size hz⟩

end Go.Proofs.YtfckmbdcfeljiaaDoor
