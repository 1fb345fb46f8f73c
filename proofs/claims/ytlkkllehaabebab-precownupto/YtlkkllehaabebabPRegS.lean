import Derived.StillTail
import Derived.StillTactics
import Derived.WalkKit
import Derived.Deep.Quiet
namespace Go.Proofs.Ytlkkllehaabebab
set_option linter.unusedVariables false
set_option maxRecDepth 100000
set_option maxHeartbeats 16000000
open Go.RowKit
structure WS (P : Program) (ops : Array Oper) (w : World) (Q : Act -> Prop) (l : List Oper) (a : Act) : Prop where
 out : wpStill P ops w Q l a
theorem st_yes {P : Program} {ops : Array Oper} {w : World} {Q : Act -> Prop} {a : Act} {o : Oper} {rest : List Oper} {v : Value} (hw : Region.wanted o (yielded ops a.tmps) = true) (hr : (execOp a.eval o).run P w = .ok (.value v) w) (h : WS P ops w Q rest (a.put o.dst v)) : WS P ops w Q (o :: rest) a := by
 refine ⟨?_⟩
 unfold wpStill
 rw [if_pos hw]
 show o.stillUpon P a w _ _
 rw [hr, Oper.stillUpon_value]
 exact h.out
theorem st_nil {P : Program} {ops : Array Oper} {w : World} {Q : Act -> Prop} {a : Act} (h : Q a) : WS P ops w Q [] a := ⟨h⟩
theorem wp_region_tail_d {P : Program} {id : Nat} {Q : Exit -> Act -> World -> Prop} {a : Act} {w : World} {l : List Oper} (n : Nat) (hm : P.follows .mixedOrders = true) (hB : Region.lexTailB .any l.toArray n = true) (wd : World) (hwd : wd = w.drew)
  (h : wpStill P l.toArray wd (fun a' => wpList P l.toArray Q (l.drop n) a' wd) (l.take n) a) : (Code.region id l.toArray true).wp P Q a w := by
 subst hwd
 exact wp_region_still_tail n hm hB h
theorem wp_region_tail_s {P : Program} {id : Nat} {Q : Exit -> Act -> World -> Prop} {a : Act} {w : World} {l : List Oper} (n : Nat) (hm : P.follows .mixedOrders = true) (hB : Region.lexTailB .any l.toArray n = true) (wd : World) (hwd : wd = w.drew)
  (h : WS P l.toArray wd (fun a' => wpList P l.toArray Q (l.drop n) a' wd) (l.take n) a) : (Code.region id l.toArray true).wp P Q a w := wp_region_tail_d n hm hB wd hwd h.out
theorem wp_region_s {P : Program} {id : Nat} {Q : Exit -> Act -> World -> Prop} {a : Act} {w : World} {l : List Oper} (hm : P.follows .mixedOrders = true) (hB : Region.lexB .any l.toArray = true) (wd : World) (hwd : wd = w.drew)
  (h : WS P l.toArray wd (fun a' => Q .normal a' wd) l a) : (Code.region id l.toArray true).wp P Q a w := by
 subst hwd
 exact wp_region_still_lit hm hB h.out
end Go.Proofs.Ytlkkllehaabebab
