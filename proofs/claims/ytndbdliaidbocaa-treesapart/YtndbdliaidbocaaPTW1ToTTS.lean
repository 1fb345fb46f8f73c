import Derived.Test.YtndbdliaidbocaaPTTY0
import Derived.Test.YtndbdliaidbocaaPRRowToRegS
import Derived.BigQuiet
import Derived.Test.YtndbdliaidbocaaPTTP
namespace Go.Proofs.Ytndbdliaidbocaa
set_option linter.unusedVariables false
open Go.RowKit
def EntW (F : FuncId) : Prop := ∀ (args : Array Value) (w : World), (callFunc F args).run Try.prog w = .ok (.enter F args) w
theorem run_fnW {o : Oper} {a : Act} {t0 : TypeId} {v0 : Value} {x x0 : Operand} {F : FuncId} {cap : Array Value} (hE : EntW F) (hop : o.op = Op.call { callee := Callee.value x, args := #[x0], argTypes := #[t0] }) (hx : a.eval x = .func (.func F) #[] cap) (h0 : a.eval x0 = v0) (w : World) : (execOp a.eval o).run Try.prog w = .ok (.enter F (#[v0] ++ cap)) w := by
 have hE' := hE (#[v0] ++ cap) w
 simp [execOp, hop, resolve, invoke, h0, hx, Deferred.ofValue, hE']
theorem wpList_callW {ops : Array Oper} {rest : List Oper} {o : Oper} {a : Act} {Q : Exit -> Act -> World -> Prop} {w : World} {F : FuncId} {cap : Array Value} {R : Ending -> World -> Prop} (hg : o.guard = none) (x x0 : Operand) (t0 : TypeId) (hop : o.op = Op.call { callee := Callee.value x, args := #[x0], argTypes := #[t0] }) (hE : EntW F) (v0 : Value) (hx : a.eval x = .func (.func F) #[] cap) (h0 : a.eval x0 = v0) (A : Array Value) (hA : A = #[v0] ++ cap) (hC : Calls Try.prog F A w R)
  (hK : ∀ e w', R e w' -> ∃ v, e = .returned v /\ wpList Try.prog ops Q rest (a.put o.dst v) w') : wpList Try.prog ops Q (o :: rest) a w := by
 subst hA
 refine wpList_plain hg fun K' hK' => ?_
 show o.upon Try.prog a K' Q ((execOp a.eval o).run Try.prog w)
 rw [run_fnW hE hop hx h0 w, Oper.upon_enter]
 refine hC.mono fun e w' hR => ?_
 obtain ⟨v, rfl, hk⟩ := hK e w' hR
 exact hK' _ _ hk
def Stp (o : Obj) : Prop := ∃ cs fz, o = .cells cs 76 fz
structure NoStp (N : Nat) (w w' : World) : Prop where
 os : w'.os = w.os
 tape : w'.tape = w.tape
 output : w'.output = w.output
 size : w.heap.size <= w'.heap.size
 keep : ∀ (j : Nat) (o : Obj), w.heap[j]? = some o -> ¬ (N <= j /\ Stp o) -> w'.heap[j]? = some o
structure OnStp (N : Nat) (w w' : World) : Prop where
 size : w.heap.size <= w'.heap.size
 keep : ∀ (j : Nat) (o : Obj), w.heap[j]? = some o -> N <= j -> Stp o -> w'.heap[j]? = some o
theorem OnStp.refl (N : Nat) (w : World) : OnStp N w w := ⟨Nat.le_refl _, fun _ _ h _ _ => h⟩
theorem OnStp.trans {N : Nat} {a b c : World} (h : OnStp N a b) (h' : OnStp N b c) : OnStp N a c := ⟨Nat.le_trans h.size h'.size, fun j o q l s => h'.keep j o (h.keep j o q l s) l s⟩
theorem NoStp.refl (N : Nat) (w : World) : NoStp N w w := ⟨rfl, rfl, rfl, Nat.le_refl _, fun _ _ h _ => h⟩
theorem NoStp.trans {N : Nat} {a b c : World} (h : NoStp N a b) (h' : NoStp N b c) : NoStp N a c := ⟨h'.os.trans h.os, h'.tape.trans h.tape, h'.output.trans h.output, Nat.le_trans h.size h'.size, fun j o q s => h'.keep j o (h.keep j o q s) s⟩
theorem below_onStp {N : Nat} {w w' : World} (h : Below w.heap.size w w') : OnStp N w w' := ⟨h.size, fun j o q _ _ => (h.block j (lt_of_block q)).trans q⟩
theorem below_noStp {N : Nat} {w w' : World} (h : Below w.heap.size w w') : NoStp N w w' := ⟨h.os, h.tape, h.output, h.size, fun j o q _ => (h.block j (lt_of_block q)).trans q⟩
abbrev PA := Nat × Nat × Nat
def stCells (x : PA) : List Value := [.pointer (some ⟨x.1, x.2.1, none⟩), .int .i64 (x.2.2 : Int)]
theorem rkStep : RK 76 77 2 stCells := by
 refine ⟨Try.underlying77, ?_, by decide, fun _ => rfl, fun x u hu => ?_⟩
 ·have h : (Try.prog.info? 76).map (fun i => (i.zero, i.size, i.bytes)) = some (some (.agg #[.pointer none, .int .i64 0]), 2, 16) := by kernel_rfl
  cases e : Try.prog.info? 76 with
  | none => rw [e] at h; cases h
  | some i =>
   rw [e] at h
   simp at h
   exact ⟨i, _, rfl, h.1, h.2.1, by rw [h.2.2]; decide, rfl⟩
 ·simp [stCells] at hu
  rcases hu with rfl | rfl <;> rfl
abbrev STo := RO 76 2 stCells
theorem STo.stp {w : World} {v : Value} {S : List PA} (h : STo w v S) : ∀ j, v.ownBlock = some j -> ∃ o, w.heap[j]? = some o /\ Stp o := fun j hj => by
 rcases h.2 with ⟨rfl, _⟩ | ⟨g, cap, cur, rfl, _, h2, _⟩
 ·simp [Value.ownBlock] at hj
 ·simp [Value.ownBlock] at hj
  subst hj
  exact ⟨_, h2, _, _, rfl⟩
def STn (N : Nat) (w : World) (v : Value) (S : List PA) : Prop := STo w v S /\ ∀ j, v.ownBlock = some j -> N <= j
theorem STn.on {N : Nat} {w w' : World} {v : Value} {S : List PA} (h : STn N w v S) (hb : OnStp N w w') : STn N w' v S := ⟨h.1.kept fun j hj => by
 obtain ⟨o, h1, h2⟩ := h.1.stp j hj
 rw [hb.keep j o h1 (h.2 j hj) h2, h1], h.2⟩
theorem STn.later {N : Nat} {w w' : World} {v : Value} {S : List PA} (h : STn N w v S) (hb : Below w.heap.size w w') : STn N w' v S := ⟨h.1.later hb, h.2⟩
theorem Grew.noStp {N : Nat} {w w' : World} {v v' : Value} {S : List PA} (h : Grew w w' v v') (hS : STn N w v S) : NoStp N w w' := by
 refine ⟨h.grown.os, h.grown.tape, h.grown.output, h.grown.size, fun j o q s => ?_⟩
 rw [h.grown.block j (lt_of_block q) (fun e => ?_), q]
 obtain ⟨o', h1, h2⟩ := hS.1.stp j e.symm
 rw [q] at h1
 cases h1
 exact s ⟨hS.2 j e.symm, h2⟩
theorem fm_last {α : Type} {f : α -> List Value} {k : Nat} (hf : ∀ x, (f x).length = k) (S : List α) (x : α) (j : Nat) (u : Value) : ((S ++ [x]).flatMap f).set (S.length * k + j) u = S.flatMap f ++ (f x).set j u := by
 rw [List.flatMap_append, List.set_append_right _ _ (by rw [fm_len hf]; omega), fm_len hf, Nat.add_sub_cancel_left]
 simp
theorem STo.bump {N : Nat} {w : World} {b c : Nat} {S : List PA} {p q n : Nat} (h : STo w (.slice (some ⟨b, 0, none⟩) (S.length + 1) c) (S ++ [(p, q, n)])) : STo (w.setCell ⟨b, S.length * 2 + 1, none⟩ (.int .i64 ((n : Int) + 1))) (.slice (some ⟨b, 0, none⟩) (S.length + 1) c) (S ++ [(p, q, n + 1)]) /\ (N <= b -> NoStp N w (w.setCell ⟨b, S.length * 2 + 1, none⟩ (.int .i64 ((n : Int) + 1)))) := by
 have hl : (S ++ [(p, q, n)]).length = S.length + 1 := by simp
 have hl' : (S ++ [(p, q, n + 1)]).length = S.length + 1 := by simp
 have h' : w.ownsRow 0 76 2 (.slice (some ⟨b, 0, none⟩) (S.length + 1) c) (S.length + 1) ((S ++ [(p, q, n)]).flatMap stCells) := by
  have := h
  unfold STo RO at this
  rwa [hl] at this
 rcases h'.2 with ⟨e, _⟩ | ⟨g, cap, cur, e, h1, h2, h3, h4, h5, h6⟩
 ·cases e
 ·cases e
  have hset := heap_setCell_same w b (S.length * 2 + 1) cur 76 (.int .i64 ((n : Int) + 1)) h2
  refine ⟨?_, ?_⟩
  ·unfold STo RO
   rw [hl']
   refine ⟨by rw [fm_len (k := 2) (fun _ => rfl), hl'], .inr ⟨b, c, _, rfl, h1, hset, h3, h4, by simp [h5], ?_⟩⟩
   rw [Array.toList_setIfInBounds, List.take_set, h6, fm_last (k := 2) (fun _ => rfl) S (p, q, n) 1]
   rw [List.flatMap_append]
   congr 1
  ·intro hN
   have hb := (Below.refl 0 w).setCell (p := ⟨b, S.length * 2 + 1, none⟩) (Nat.zero_le _) (.int .i64 ((n : Int) + 1))
   refine ⟨hb.os, hb.tape, hb.output, hb.size, fun j o qq s => ?_⟩
   rw [Below.heap_setCell _ _ _ _ (fun e => ?_), qq]
   have e : j = b := e
   subst e
   rw [h2] at qq
   cases qq
   exact s ⟨hN, _, _, rfl⟩
theorem pl_size (t : TV) (d e : Int) : (plT d t).length = (plT e t).length := by
 induction t using TV.ind generalizing d e with
 | _ t ih =>
  rw [plT_eq, plT_eq]
  have : ∀ (l : List TV), (∀ k ∈ l, ∀ d e, (plT d k).length = (plT e k).length) -> (plL (d + 1) l).length = (plL (e + 1) l).length := by
   intro l
   induction l with
   | nil => intro _; rfl
   | cons a l ihl =>
    intro hl
    rw [plL_cons, plL_cons, List.length_append, List.length_append, hl a List.mem_cons_self (d + 1) (e + 1), ihl (fun k hk => hl k (List.mem_cons_of_mem _ hk))]
  simp [this t.kids (fun k hk => ih k hk)]
def szT (t : TV) : Nat := (plT 0 t).length
def szL (l : List TV) : Nat := (l.map szT).sum
theorem szL_app (l m : List TV) : szL (l ++ m) = szL l + szL m := by simp [szL]
theorem plL_len (d : Int) : ∀ l : List TV, (plL d l).length = szL l
 | [] => rfl
 | a :: l => by rw [plL_cons, List.length_append, plL_len d l, pl_size a d 0]; simp [szL, szT]
theorem szT_eq (t : TV) : szT t = szL t.kids + 1 := by
 unfold szT
 rw [plT_eq, List.length_cons, plL_len]
theorem szL_len : ∀ l : List TV, l.length <= szL l
 | [] => Nat.le_refl _
 | a :: l => by
  have := szL_len l
  have := szT_eq a
  simp only [szL, List.map_cons, List.sum_cons, List.length_cons] at *
  omega
theorem szL_mem : ∀ {l : List TV} {k : TV}, k ∈ l -> szT k <= szL l
 | a :: l, k, h => by
  simp only [szL, List.map_cons, List.sum_cons]
  rcases List.mem_cons.1 h with rfl | h
  ·omega
  ·have := szL_mem h
   simp only [szL] at this
   omega
end Go.Proofs.Ytndbdliaidbocaa
