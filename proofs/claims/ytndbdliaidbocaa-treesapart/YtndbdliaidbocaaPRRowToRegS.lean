import Derived.Test.YtndbdliaidbocaaPBBaseToGArg2
import Derived.Laws.OwnMore
import Derived.Deep.LoopGhost
import Derived.StillTail
import Derived.StillTactics
import Derived.WalkKit
import Derived.Deep.Quiet
namespace Go.Proofs.Ytndbdliaidbocaa
set_option linter.unusedVariables false
open Go.RowKit
structure RK {α : Type} (τ σ : TypeId) (k : Nat) (f : α -> List Value) : Prop where
 und : Try.prog.underlying σ = some (.slice τ)
 info : ∃ i z, Try.prog.info? τ = some i /\ i.zero = some z /\ i.size = k /\ i.bytes <= 128 /\ z.cells.size = k
 pos : 0 < k
 len : ∀ x, (f x).length = k
 one : ∀ x, ∀ u ∈ f x, u.oneCell' = true
def RO {α : Type} (τ : TypeId) (k : Nat) (f : α -> List Value) (w : World) (v : Value) (l : List α) : Prop := w.ownsRow 0 τ k v l.length (l.flatMap f)
section
variable {α : Type} {τ σ : TypeId} {k : Nat} {f : α -> List Value}
theorem fm_len (hf : ∀ x, (f x).length = k) (l : List α) : (l.flatMap f).length = l.length * k := by
 induction l with
 | nil => simp
 | cons x l ih => rw [List.flatMap_cons, List.length_append, ih, hf, List.length_cons, Nat.add_mul]; omega
theorem fm_get (hf : ∀ x, (f x).length = k) : ∀ (l : List α) (i : Nat) (h : i < l.length) (j : Nat), j < k -> (l.flatMap f)[i * k + j]? = (f l[i])[j]?
 | [], _, h, _, _ => by simp at h
 | x :: l, 0, _, j, hj => by rw [List.flatMap_cons, Nat.zero_mul, Nat.zero_add, List.getElem?_append_left (by rw [hf]; exact hj)]; rfl
 | x :: l, i + 1, h, j, hj => by
  have := fm_get hf l i (by simpa using h) j hj
  rw [List.flatMap_cons, List.getElem?_append_right (by rw [hf, Nat.add_mul]; omega), hf, show (i + 1) * k + j - k = i * k + j by rw [Nat.add_mul]; omega, this]
  rfl
theorem RO.nil (w : World) : RO τ k f w (.slice none 0 0) [] := World.ownsRow_nil w 0 τ k
theorem RO.len {w : World} {v : Value} {l : List α} (h : RO τ k f w v l) : ∃ a c, v = .slice a l.length c /\ l.length <= c := by
 rcases h.2 with ⟨rfl, h0⟩ | ⟨g, cap, cur, rfl, _, _, h3, _⟩
 ·exact ⟨none, 0, by rw [h0], by omega⟩
 ·exact ⟨_, _, rfl, h3⟩
theorem RO.kept {w w' : World} {v : Value} {l : List α} (h : RO τ k f w v l) (hb : ∀ j, v.ownBlock = some j -> w'.heap[j]? = w.heap[j]?) : RO τ k f w' v l := by
 refine ⟨h.1, ?_⟩
 rcases h.2 with q | ⟨g, cap, cur, rfl, h1, h2, h3⟩
 ·exact .inl q
 ·exact .inr ⟨g, cap, cur, rfl, h1, (hb g rfl).trans h2, h3⟩
theorem RO.lt {w : World} {v : Value} {l : List α} (h : RO τ k f w v l) : ∀ j, v.ownBlock = some j -> j < w.heap.size := fun j hj => (World.ownsRow.lt h j hj).2
theorem RO.later {w w' : World} {v : Value} {l : List α} (h : RO τ k f w v l) (hb : Below w.heap.size w w') : RO τ k f w' v l := h.kept fun j hj => hb.block j (h.lt j hj)
theorem RO.cell {w : World} {v : Value} {l : List α} (hf : ∀ x, (f x).length = k) (h : RO τ k f w v l) {i : Nat} (hi : i < l.length) : ∃ b c, v = .slice (some ⟨b, 0, none⟩) l.length c /\ l.length <= c /\ ∀ j, j < k -> w.cell? ⟨b, i * k + j, none⟩ = (f l[i])[j]? := by
 have hc := h
 rcases h.2 with ⟨_, h0⟩ | ⟨g, cap, cur, rfl, h1, h2, h3, h4⟩
 ·omega
 ·refine ⟨g, cap, rfl, h3, fun j hj => ?_⟩
  have hlt : i * k + j < l.length * k := by
   have : (i + 1) * k <= l.length * k := Nat.mul_le_mul_right _ hi
   rw [Nat.add_mul] at this
   omega
  rw [World.ownsRow.cellAt hc (i * k + j) hlt, fm_get hf l i hi j hj]
theorem RO.pop {w : World} {v : Value} {l : List α} {x : α} (hf : ∀ x, (f x).length = k) (h : RO τ k f w v (l ++ [x])) : ∃ b c, v = .slice (some ⟨b, 0, none⟩) (l.length + 1) c /\ l.length + 1 <= c /\ (∀ j, j < k -> w.cell? ⟨b, l.length * k + j, none⟩ = (f x)[j]?) /\ RO τ k f w (.slice (some ⟨b, 0, none⟩) l.length c) l := by
 obtain ⟨b, c, rfl, hc, hcell⟩ := h.cell hf (i := l.length) (by simp)
 rw [show (l ++ [x]).length = l.length + 1 by simp] at hc h ⊢
 refine ⟨b, c, rfl, hc, fun j hj => ?_, ?_⟩
 ·have := hcell j hj
  simpa using this
 ·have h' : w.ownsRow 0 τ k (.slice (some ⟨b, 0, none⟩) (l.length + 1) c) (l.length + 1) ((l ++ [x]).flatMap f) := by
   have := h
   unfold RO at this
   rwa [show (l ++ [x]).length = l.length + 1 by simp] at this
  rcases h'.2 with ⟨_, h0⟩ | ⟨g, cap, cur, e, h1, h2, h3, h4, h5, h6⟩
  ·omega
  ·cases e
   refine ⟨fm_len hf l, .inr ⟨b, c, cur, rfl, h1, h2, by omega, h4, h5, ?_⟩⟩
   have e : cur.toList.take (l.length * k) = (cur.toList.take ((l.length + 1) * k)).take (l.length * k) := by
    rw [List.take_take]; congr 1; rw [Nat.add_mul]; omega
   rw [e, h6, List.flatMap_append, List.take_left' (fm_len hf l)]
theorem run_ro_append (r : RK τ σ k f) (w : World) (ty : TypeId) (v : Value) (l : List α) (h : RO τ k f w v l) (b c : Nat) (x : α) (hy : ∀ j u, (f x)[j]? = some u -> w.cell? ⟨b, j, none⟩ = some u) (hlen : l.length <= 1000000000) :
  ∃ a' n' c' w', (Builtin.append_ #[σ, σ] ty #[v, .slice (some ⟨b, 0, none⟩) 1 c]).run Try.prog w = .ok (.slice a' n' c') w' /\ RO τ k f w' (.slice a' n' c') (l ++ [x]) /\ Grew w w' v (.slice a' n' c') := by
 obtain ⟨i0, z0, hi, hz0, hz1, hz2, hz3⟩ := r.info
 have hlim : (l.length + 1) * i0.bytes <= 140737488355328 := Nat.le_trans (Nat.mul_le_mul_left _ hz2) (by omega)
 obtain ⟨v', w', hrun, hown, hgrow, _, hmv⟩ := run_append_own_at (P := Try.prog) (w := w) 0 σ ty τ i0 z0 k i0.bytes r.und hi hz0 hz1 rfl hz3 r.pos v l.length (l.flatMap f) h ⟨b, 0, none⟩ 1 c (f x) (by rw [r.len]; omega) (fun j u hu => by rw [add_none, Nat.zero_add]; exact hy j u hu) (r.one x) (by unfold maxLen; omega) hlim (Nat.zero_le _)
 have h6 : RO τ k f w' v' (l ++ [x]) := by
  unfold RO
  have e : (l ++ [x]).flatMap f = l.flatMap f ++ f x := by simp
  rw [e]
  simpa using hown
 obtain ⟨a', c', rfl, _⟩ := RO.len h6
 exact ⟨_, _, _, w', hrun, h6, ⟨hgrow, hmv.imp id fun e => ⟨_, e, Nat.le_refl _⟩⟩⟩
theorem wpList_ro_append (r : RK τ σ k f) {ops : Array Oper} {rest : List Oper} {o : Oper} {a : Act} {Q : Exit -> Act -> World -> Prop} {w : World} (hgd : o.guard = none) (s x : Operand)
  (ho : o.op = .call { callee := .builtin .append, args := #[s, x], argTypes := #[σ, σ] })
  (v : Value) (l : List α) (hs : a.eval s = v) (h : RO τ k f w v l) (b c : Nat) (q : α) (hx : a.eval x = .slice (some ⟨b, 0, none⟩) 1 c) (hy : ∀ j u, (f q)[j]? = some u -> w.cell? ⟨b, j, none⟩ = some u) (hlen : l.length <= 1000000000)
  (hK : ∀ a' n' c' w', RO τ k f w' (.slice a' n' c') (l ++ [q]) -> Grew w w' v (.slice a' n' c') -> wpList Try.prog ops Q rest (a.put o.dst (.slice a' n' c')) w') : wpList Try.prog ops Q (o :: rest) a w := by
 refine wpList_plain hgd fun K hK' => ?_
 obtain ⟨a', n', c', w', hrun, r1, r2⟩ := run_ro_append r w o.type v l h b c q hy hlen
 unfold Oper.wp execOp
 simp only [ho, resolve, invoke, builtin, Sem.run_bind, Sem.run_pure, Result.andThen_ok, List.map_toArray, List.map_cons, List.map_nil, hs, hx, hrun]
 exact hK' _ _ (hK a' n' c' w' r1 r2)
theorem Grew.below {w w' w0 : World} {v v' : Value} {n : Nat} (h : Grew w w' v v') (hb : Below n w0 w) (hn : n <= w0.heap.size) (hv : ∀ j, v.ownBlock = some j -> n <= j) : Below n w0 w' :=
 ⟨h.grown.os.trans hb.os, h.grown.tape.trans hb.tape, h.grown.output.trans hb.output, Nat.le_trans hb.size h.grown.size, fun j hj => (h.grown.block j (by have := hb.size; omega) (fun e => by have := hv j e.symm; omega)).trans (hb.block j hj)⟩
theorem Grew.own {w w' : World} {v v' : Value} {n : Nat} (h : Grew w w' v v') (hn : n <= w.heap.size) (hv : ∀ j, v.ownBlock = some j -> n <= j) : ∀ j, v'.ownBlock = some j -> n <= j := fun j hj => by
 rcases h.moved with e | ⟨i, e, hi⟩
 ·exact hv j (by rw [<- e]; exact hj)
 ·rw [e] at hj
  simp at hj
  omega
end
structure WS (P : Program) (ops : Array Oper) (w : World) (Q : Act -> Prop) (l : List Oper) (a : Act) : Prop where
 out : wpStill P ops w Q l a
structure WQ (P : Program) (ops : Array Oper) (C : World -> Prop) (Q : Act -> Prop) (l : List Oper) (a : Act) : Prop where
 out : wpQuiet P ops C Q l a
theorem st_yes {P : Program} {ops : Array Oper} {w : World} {Q : Act -> Prop} {a : Act} {o : Oper} {rest : List Oper} {v : Value} (hw : Region.wanted o (yielded ops a.tmps) = true) (hr : (execOp a.eval o).run P w = .ok (.value v) w) (h : WS P ops w Q rest (a.put o.dst v)) : WS P ops w Q (o :: rest) a := by
 refine ⟨?_⟩
 unfold wpStill
 rw [if_pos hw]
 show o.stillUpon P a w _ _
 rw [hr, Oper.stillUpon_value]
 exact h.out
theorem st_nil {P : Program} {ops : Array Oper} {w : World} {Q : Act -> Prop} {a : Act} (h : Q a) : WS P ops w Q [] a := ⟨h⟩
theorem qt_yes {P : Program} {ops : Array Oper} {C : World -> Prop} {Q : Act -> Prop} {a : Act} {o : Oper} {rest : List Oper} {v : Value} (hw : Region.wanted o (yielded ops a.tmps) = true) (hr : ∀ w, C w -> (execOp a.eval o).run P w = .ok (.value v) w) (h : WQ P ops C Q rest (a.put o.dst v)) : WQ P ops C Q (o :: rest) a := by
 refine ⟨?_⟩
 unfold wpQuiet
 rw [if_pos hw]
 refine ⟨v, fun w hC => ?_, h.out⟩
 unfold Oper.quietAt
 rw [hr w hC]
 exact ⟨rfl, rfl⟩
theorem qt_call {P : Program} {ops : Array Oper} {C : World -> Prop} {Q : Act -> Prop} {a : Act} {o : Oper} {rest : List Oper} {v : Value} (f : FuncId) (args : Array Value) (hw : Region.wanted o (yielded ops a.tmps) = true) (hr : ∀ w, C w -> (execOp a.eval o).run P w = .ok (.enter f args) w) (hc : ∀ w, C w -> Calls P f args w fun e w' => e = .returned v /\ C w') (h : WQ P ops C Q rest (a.put o.dst v)) : WQ P ops C Q (o :: rest) a := by
 refine ⟨?_⟩
 unfold wpQuiet
 rw [if_pos hw]
 refine ⟨v, fun w hC => ?_, h.out⟩
 unfold Oper.quietAt
 rw [hr w hC]
 exact ⟨rfl, hc w hC⟩
theorem qt_nil {P : Program} {ops : Array Oper} {C : World -> Prop} {Q : Act -> Prop} {a : Act} (h : Q a) : WQ P ops C Q [] a := ⟨h⟩
theorem wp_region_q {P : Program} {C : World -> Prop} {id : Nat} {Q : Exit -> Act -> World -> Prop} {a : Act} {w : World} {l : List Oper} (hm : P.follows .mixedOrders = true) (hB : Region.lexB .any l.toArray = true) (hC : C w.drew)
  (h : WQ P l.toArray C (fun a' => ∀ w', C w' -> Q .normal a' w') l a) : (Code.region id l.toArray true).wp P Q a w :=
 wp_region_quiet (C := C) hm hB hC (by simpa using h.out)
theorem wp_region_tail_d {P : Program} {id : Nat} {Q : Exit -> Act -> World -> Prop} {a : Act} {w : World} {l : List Oper} (n : Nat) (hm : P.follows .mixedOrders = true) (hB : Region.lexTailB .any l.toArray n = true) (wd : World) (hwd : wd = w.drew)
  (h : wpStill P l.toArray wd (fun a' => wpList P l.toArray Q (l.drop n) a' wd) (l.take n) a) : (Code.region id l.toArray true).wp P Q a w := by
 subst hwd
 exact wp_region_still_tail n hm hB h
theorem wp_region_tail_s {P : Program} {id : Nat} {Q : Exit -> Act -> World -> Prop} {a : Act} {w : World} {l : List Oper} (n : Nat) (hm : P.follows .mixedOrders = true) (hB : Region.lexTailB .any l.toArray n = true) (wd : World) (hwd : wd = w.drew)
  (h : WS P l.toArray wd (fun a' => wpList P l.toArray Q (l.drop n) a' wd) (l.take n) a) : (Code.region id l.toArray true).wp P Q a w := wp_region_tail_d n hm hB wd hwd h.out
end Go.Proofs.Ytndbdliaidbocaa
