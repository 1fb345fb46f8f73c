import Derived.Test.YtlkkllehaabebaaPPC2
import Derived.Maps.Own
namespace Go.Proofs.Ytlkkllehaabebaa
set_option linter.unusedVariables false
set_option maxRecDepth 100000
set_option maxHeartbeats 16000000
open Go.RowKit Go.Maps
abbrev dval (d : DV) (ao : Option Addr) (c : Nat) : Value := .agg #[.int .i64 d.look, .int .i64 d.kind, .int .i64 d.prod, .slice ao d.drop.length c, .bool d.sd, .int .i64 d.lev]
def D1 (n : Nat) (w : World) (d : DV) (ao : Option Addr) (c : Nat) : Prop :=
 (d.drop = [] /\ ao = none /\ c = 0) ∨ ∃ b p, n <= b /\ d.drop = [p] /\ ao = some ⟨b, 0, none⟩ /\ c = 1 /\ w.heap[b]? = some (.cells #[.int .i64 p] 3 (0, 0))
theorem D1.later {n : Nat} {w w' : World} {d : DV} {ao : Option Addr} {c : Nat} (h : D1 n w d ao c) (hb : Below w.heap.size w w') : D1 n w' d ao c := by
 rcases h with h | ⟨b, p, h1, h2, h3, h4, h5⟩
 ·exact .inl h
 ·exact .inr ⟨b, p, h1, h2, h3, h4, (hb.block _ (lt_of_block h5)).trans h5⟩
theorem D1.mono {n m : Nat} {w : World} {d : DV} {ao : Option Addr} {c : Nat} (h : D1 n w d ao c) (hm : m <= n) : D1 m w d ao c := by
 rcases h with h | ⟨b, p, h1, h2, h3, h4, h5⟩
 ·exact .inl h
 ·exact .inr ⟨b, p, Nat.le_trans hm h1, h2, h3, h4, h5⟩
theorem D1.row {n : Nat} {w : World} {d : DV} {ao : Option Addr} {c : Nat} (h : D1 n w d ao c) : InRow w ao d.drop := by
 rcases h with ⟨h, _⟩ | ⟨b, p, h1, h2, h3, h4, h5⟩
 ·intro hn; exact absurd h hn
 ·intro _
  refine ⟨b, 0, h3, lt_of_block h5, fun i hi => ?_⟩
  rw [h2] at hi ⊢
  obtain rfl : i = 0 := by simpa using hi
  rw [cellq_any h5]; rfl
abbrev duV (p t l : Int) : Value := .agg #[.int .i64 p, .int .i64 t, .int .i64 l]
def DuO (w : World) (d : DV) (e : Ending) (w' : World) : Prop := ∃ ao c, e = .returned (dval d ao c) /\ D1 w.heap.size w' d ao c /\ Below w.heap.size w w'
theorem red_P (p t l : Int) (w : World) : Calls Try.prog 73 #[duV p t l] w (DuO w (redD p t l)) := by
 go_enter Try.func73, Try.ntmps73
 go_wp2
 refine bodyPost_ret (v := dval (redD p t l) none 0) (by simp [results, Try.results73, go_sem, redD]) rfl ?_
 exact ⟨none, 0, rfl, .inl ⟨rfl, rfl, rfl⟩, (below_alloc w _).trans ((below_alloc _ _).mono (below_alloc w _).size)⟩
theorem shi_P (p t l : Int) (w : World) : Calls Try.prog 74 #[duV p t l] w (DuO w (shiD p t l)) := by
 go_enter Try.func74, Try.ntmps74
 go_wp2
 refine bodyPost_ret (v := dval (shiD p t l) (some ⟨w.heap.size + 1 + 1, 0, none⟩) 1) (by simp [results, Try.results74, go_sem, shiD]) rfl ?_
 exact ⟨(some ⟨w.heap.size + 1 + 1, 0, none⟩), 1, rfl, .inr ⟨w.heap.size + 1 + 1, p, by omega, rfl, rfl, rfl, by have := heap_alloc_new ((w.alloc (.cells #[.int .i64 p, .int .i64 t, .int .i64 l] 136)).alloc (.cells #[.int .i64 t, .int .i64 1, .int .i64 (-1), .slice (some ⟨w.heap.size + 1 + 1, 0, none⟩) 1 1, .bool false, .int .i64 l] 47)) (.cells #[.int .i64 p] 3); rwa [alZ, alZ] at this⟩, ((below_alloc w _).trans ((below_alloc _ _).mono (below_alloc w _).size)).trans ((below_alloc _ _).mono (by simp; omega))⟩
theorem err_P (p t l : Int) (w : World) : Calls Try.prog 91 #[duV p t l] w (DuO w (errD p t l)) := by
 go_enter Try.func91, Try.ntmps91
 go_wp2
 refine bodyPost_ret (v := dval (errD p t l) (some ⟨w.heap.size + 1 + 1, 0, none⟩) 1) (by simp [results, Try.results91, go_sem, errD]) rfl ?_
 exact ⟨(some ⟨w.heap.size + 1 + 1, 0, none⟩), 1, rfl, .inr ⟨w.heap.size + 1 + 1, p, by omega, rfl, rfl, rfl, by have := heap_alloc_new ((w.alloc (.cells #[.int .i64 p, .int .i64 t, .int .i64 l] 136)).alloc (.cells #[.int .i64 t, .int .i64 3, .int .i64 (-1), .slice (some ⟨w.heap.size + 1 + 1, 0, none⟩) 1 1, .bool true, .int .i64 l] 47)) (.cells #[.int .i64 p] 3); rwa [alZ, alZ] at this⟩, ((below_alloc w _).trans ((below_alloc _ _).mono (below_alloc w _).size)).trans ((below_alloc _ _).mono (by simp; omega))⟩
theorem und_P (t : Int) (w : World) : Calls Try.prog 72 #[.int .i64 t] w (DuO w (noneD t)) := by
 go_enter Try.func72, Try.ntmps72
 go_wp2
 refine bodyPost_ret (v := dval (noneD t) none 0) (by simp [results, Try.results72, go_sem, noneD]) rfl ?_
 exact ⟨none, 0, rfl, .inl ⟨rfl, rfl, rfl⟩, below_alloc w _⟩
def heldE (v : Value) : Option (DataW Value × List MemPlace) := some (.held v, [])
theorem heldE_mk (v : Value) : heldE v = some (.held v, []) := rfl
theorem heldE_inv {v u : Value} {ps : List MemPlace} (h : heldE v = some (.held u, ps)) : v = u := by
 unfold heldE at h
 simp only [Option.some.injEq, Prod.mk.injEq, DataW.held.injEq] at h
 exact h.1
structure FMp (z : Value) (D : DataW Value) (f : Int -> Value) : Prop where
 tidy : Tidy D
 at_ : ∀ x, D.atKey (.int .i64 x) (.held z) = .held (f x)
theorem FMp.empty (z : Value) : FMp z (.map []) (fun _ => z) := ⟨tidy_empty, fun _ => rfl⟩
theorem FMp.put {z : Value} {D : DataW Value} {f : Int -> Value} (h : FMp z D f) (x : Int) (v : Value) : FMp z (D.put (.int .i64 x) (.held v)) (fun y => if y = x then v else f y) := by
 refine ⟨h.tidy.put (int_is x) _, fun y => ?_⟩
 by_cases e : y = x
 ·subst e; rw [atKey_put_same h.tidy.isMap (int_is y)]; simp
 ·rw [atKey_put_other (fun q => e (by simpa using q)), h.at_ y]; simp [e]
theorem wpList_insert_own {H : Type} {P : Program} (w : World) {ops : Array Oper} {rest : List Oper} {o : Oper} {a : Act} {Q : Exit -> Act -> World -> Prop}
  (hg : o.guard = none) (m x v : Operand) (t : TypeId) (hop : o.op = Op.insert t m x v)
  (k e : TypeId) (K : Keyed P k) (ht : P.underlying t = some (.map k e)) (R : Value -> Option (DataW H × List MemPlace)) (b n : Nat) (D : DataW H)
  (hm : a.eval m = .map (some b)) (hown : w.ownsMap P k R b n D) (hn : n < maxLen) (key val : Value) (kl : Lit) (hx : a.eval x = key) (hv : a.eval v = val) (hkey : keyOf P k key = some kl)
  (d : DataW H) (ps : List MemPlace) (hval : R val = some (d, ps))
  (hK : ∀ w', w'.ownsMap P k R b (n + 1) (D.put kl d) -> w.grownBy w' (some b) -> wpList P ops Q rest (a.put o.dst undef) w') :
  wpList P ops Q (o :: rest) a w := by
 refine wpList_plain hg fun K' hK' => ?_
 obtain ⟨w', hrun, r1, r2⟩ := hown.update K ht hn hkey hval
 unfold Oper.wp
 simp [execOp, hop, hm, hx, hv, hrun, Result.andThen]
 exact hK' _ _ (hK w' r1 r2)
theorem lawA : Keyed Try.prog 74 := int_keyed Try.underlying74
theorem keyOf_A {x : Int} (h0 : 0 <= x) (h1 : x <= 140737488355328) : keyOf Try.prog 74 (.int .i64 x) = some (.int .i64 x) := by
 refine keyOf_int_mk Try.underlying74 ?_
 have e1 : IntKind.i64.min = -9223372036854775808 := by decide
 have e2 : IntKind.i64.max = 9223372036854775807 := by decide
 simp [Lit.wf, e1, e2]
 omega
abbrev eqFn (x : Int) : Value := if x = 1 then .func (.func 73) #[] #[] else if x = 2 then .func (.func 74) #[] #[] else .func (.func 91) #[] #[]
structure EqM (w : World) (mb : Nat) : Prop where
 ex : ∃ D f, w.ownsMap Try.prog 74 heldE mb 3 D /\ FMp (.nilFunc) D f /\ ∀ x, 1 <= x -> x <= 3 -> f x = eqFn x
theorem gr_below {w w1 w2 : World} (h : Below w.heap.size w w1) (g : w1.grownBy w2 (some w.heap.size)) : Below w.heap.size w w2 :=
 ⟨g.os.trans h.os, g.tape.trans h.tape, g.output.trans h.output, Nat.le_trans h.size g.size, fun j hj => (g.block j (by have := h.size; omega) (by simp; omega)).trans (h.block j hj)⟩
theorem zeroFn (w : World) : (zeroValue 139).run Try.prog w = .ok (.nilFunc) w := by kernel_rfl
theorem equals_P (w : World) : Calls Try.prog 71 #[] w fun e w' => e = .returned (.map (some w.heap.size)) /\ EqM w' w.heap.size /\ Below w.heap.size w w' := by
 have hmm := @run_makeMap Try.prog
 have M0 : Hid ((w.alloc (.map #[] 0)).ownsMap Try.prog 74 heldE w.heap.size 0 (.map []) /\ Below w.heap.size w (w.alloc (.map #[] 0))) := ⟨World.ownsMap_made _ _ _ _, below_alloc _ _⟩
 go_enter Try.func71, Try.ntmps71
 go_wp2_with (first
  | (refine wpList_insert_own _ rfl _ _ _ 131 rfl 74 139 lawA Try.underlying131 heldE w.heap.size 0 _ rfl M0.out.1 (by decide) _ _ (.int .i64 1) rfl rfl (keyOf_A (by decide) (by decide)) (.held (.func (.func 73) #[] #[])) [] rfl ?_; intro w1 o1 g1; have M1 : Hid (w1.ownsMap Try.prog 74 heldE w.heap.size 1 _ /\ Below w.heap.size w w1) := ⟨o1, by exact gr_below M0.out.2 g1⟩; clear M0 o1 g1)
  | (refine wpList_insert_own _ rfl _ _ _ 131 rfl 74 139 lawA Try.underlying131 heldE w.heap.size 1 _ rfl M1.out.1 (by decide) _ _ (.int .i64 2) rfl rfl (keyOf_A (by decide) (by decide)) (.held (.func (.func 74) #[] #[])) [] rfl ?_; intro w2 o2 g2; have M2 : Hid (w2.ownsMap Try.prog 74 heldE w.heap.size 2 _ /\ Below w.heap.size w w2) := ⟨o2, by exact gr_below M1.out.2 g2⟩; clear M1 o2 g2)
  | (refine wpList_insert_own _ rfl _ _ _ 131 rfl 74 139 lawA Try.underlying131 heldE w.heap.size 2 _ rfl M2.out.1 (by decide) _ _ (.int .i64 3) rfl rfl (keyOf_A (by decide) (by decide)) (.held (.func (.func 91) #[] #[])) [] rfl ?_; intro w3 o3 g3; have M3 : Hid (w3.ownsMap Try.prog 74 heldE w.heap.size 3 _ /\ Below w.heap.size w w3) := ⟨o3, by exact gr_below M2.out.2 g3⟩; clear M2 o3 g3))
 go_ret
 exact ⟨rfl, ⟨_, _, M3.out.1, (((FMp.empty (.nilFunc)).put 1 _).put 2 _).put 3 _, fun x h1 h3 => by
  unfold eqFn
  rcases (show x = 1 ∨ x = 2 ∨ x = 3 by omega) with rfl | rfl | rfl <;> simp⟩, M3.out.2⟩
end Go.Proofs.Ytlkkllehaabebaa
