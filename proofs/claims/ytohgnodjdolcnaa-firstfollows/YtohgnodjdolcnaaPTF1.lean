import Derived.Test.YtohgnodjdolcnaaPTT5
import Derived.Test.YtohgnodjdolcnaaPFFolToFFol7
import Derived.Test.YtohgnodjdolcnaaPFSamToFClo
import Derived.Test.YtohgnodjdolcnaaPGCheckR
namespace Go.Proofs.Ytohgnodjdolcnaa
set_option linter.unusedVariables false
set_option maxRecDepth 100000
set_option maxHeartbeats 16000000
open Go.RowKit
theorem run_numT {o : Oper} {a : Act} {t0 : TypeId} {v0 : Value} {x0 : Operand} (hop : o.op = Op.call { callee := Callee.value (Operand.func 9), args := #[x0], argTypes := #[t0] }) (h0 : a.eval x0 = v0) (w : World) : (execOp a.eval o).run Try.prog w = .ok (.enter 9 #[v0]) w := by
 have hf : a.eval (Operand.func 9) = .func (.func 9) #[] #[] := rfl
 simp [execOp, hop, resolve, invoke, h0, hf, Deferred.ofValue]
theorem run_mayT {o : Oper} {a : Act} {t0 : TypeId} {v0 : Value} {x0 : Operand} (hop : o.op = Op.call { callee := Callee.value (Operand.func 8), args := #[x0], argTypes := #[t0] }) (h0 : a.eval x0 = v0) (w : World) : (execOp a.eval o).run Try.prog w = .ok (.enter 8 #[v0]) w := by
 have hf : a.eval (Operand.func 8) = .func (.func 8) #[] #[] := rfl
 simp [execOp, hop, resolve, invoke, h0, hf, Deferred.ofValue]
theorem run_inT {o : Oper} {a : Act} {t0 t1 : TypeId} {v0 v1 : Value} {x0 x1 : Operand} (hop : o.op = Op.call { callee := Callee.value (Operand.func 16), args := #[x0, x1], argTypes := #[t0, t1] }) (h0 : a.eval x0 = v0) (h1 : a.eval x1 = v1) (w : World) : (execOp a.eval o).run Try.prog w = .ok (.enter 16 #[v0, v1]) w := by
 have hf : a.eval (Operand.func 16) = .func (.func 16) #[] #[] := rfl
 simp [execOp, hop, resolve, invoke, h0, h1, hf, Deferred.ofValue]
theorem two_gt (w : World) (g : GV) (t : TV) : Below w.heap.size w ((w.alloc (gBox g)).alloc (tBox t)) /\ ((w.alloc (gBox g)).alloc (tBox t)).heap[w.heap.size]? = some (gBox g) /\ ((w.alloc (gBox g)).alloc (tBox t)).heap[w.heap.size + 1]? = some (tBox t) := by
 refine ⟨two_tbox w g t, ?_, ?_⟩
 ·rw [(below_alloc (w.alloc (gBox g)) (tBox t)).block _ (by simp)]
  exact heap_alloc_new _ _
 ·have := heap_alloc_new (w.alloc (gBox g)) (tBox t)
  rwa [show (w.alloc (gBox g)).heap.size = w.heap.size + 1 by simp] at this
set_option linter.unusedSimpArgs false in
theorem follows_no (g : GV) (t : TV) (w : World) (h : GAt 140737488355328 w g) (hpc : g.ps.length <= g.pc) (er at_ : Int) (hE : checkG g (checkF g.ts g.ns) = (er, at_)) (h0 : er ≠ 0) :
  Calls Try.prog 4 #[g.val, t.val] w fun e w' => e = .returned (.bool true) /\ Below w.heap.size w w' := by
 have X0 : Hid (Below w.heap.size w ((w.alloc (gBox g)).alloc (tBox t)) /\ ((w.alloc (gBox g)).alloc (tBox t)).heap[w.heap.size]? = some (gBox g) /\ ((w.alloc (gBox g)).alloc (tBox t)).heap[w.heap.size + 1]? = some (tBox t)) := two_gt w g t
 have FC : Hid (∀ w', Below w.heap.size w w' -> Calls Try.prog 17 #[g.val] w' fun e w'' => e = .returned (.tuple #[.slice none 0 0, .int .i64 er]) /\ Below w'.heap.size w' w'') := fun w' hb => follow_no g w' (h.later hb) hpc er at_ hE h0
 have MC : Hid (∀ w', Below w.heap.size w w' -> Calls Try.prog 8 #[g.val] w' fun e w'' => e = .returned (.int .i64 er) /\ Below w'.heap.size w' w'') := fun w' hb => by
  have := refmay_G g w' (h.later hb)
  rwa [hE] at this
 have t1 : (er != 0) = true := by simpa using h0
 have t2 : (er == er) = true := by simp
 clear h hE h0
 go_enter Try.func4, Try.ntmps4
 go_wp2_with (first
  | (go_at_call 5; refine (works_S _).mono ?_; rintro e w1 ⟨rfl, b1⟩; have B1 : Hid (Below w.heap.size w w1 /\ w1.heap[w.heap.size]? = some (gBox g)) := ⟨X0.out.1.trans (b1.mono X0.out.1.size), tbox_on X0.out.2.1 b1⟩; clear b1; obtain ⟨x0, x1, x2, x3, x4⟩ := gb_cells B1.out.2)
  | (go_at_call 17; refine (FC.out _ B1.out.1).mono ?_; rintro e w3 ⟨rfl, b3⟩; have B3 : Hid (Below w.heap.size w w3 /\ w3.heap[w.heap.size]? = some (gBox g)) := ⟨B1.out.1.trans (b3.mono B1.out.1.size), tbox_on B1.out.2 b3⟩; clear b3 x0 x1 x2 x3 x4; obtain ⟨x0, x1, x2, x3, x4⟩ := gb_cells B3.out.2)
  | (go_at_call 8; refine (MC.out _ B3.out.1).mono ?_; rintro e w5 ⟨rfl, b5⟩; have B5 : Hid (Below w.heap.size w w5 /\ w5.heap[w.heap.size]? = some (gBox g)) := ⟨B3.out.1.trans (b5.mono B3.out.1.size), tbox_on B3.out.2 b5⟩; clear b5 x0 x1 x2 x3 x4))
 have B6 : Hid (Below w.heap.size w w5.drew /\ w5.drew.heap[w.heap.size]? = some (gBox g)) := ⟨B5.out.1.drew, B5.out.2⟩
 have KS0 : Hid (∀ w', w'.heap[w.heap.size]? = some (gBox g) -> (fun w' : World => w'.cell? ⟨w.heap.size, 0, none⟩ = some (.slice g.ta g.ts.length g.tc) /\ w'.cell? ⟨w.heap.size, 1, none⟩ = some (.slice g.na g.ns.length g.nc) /\ w'.cell? ⟨w.heap.size, 2, none⟩ = some (.int .i64 g.start) /\ w'.cell? ⟨w.heap.size, 3, none⟩ = some (.slice g.pa g.ps.length g.pc) /\ w'.cell? ⟨w.heap.size, 4, none⟩ = some (.slice g.la g.ls.length g.lc)) w') := fun w' hw => gb_cells hw
 have hs : Hid ((fun w' : World => w'.cell? ⟨w.heap.size, 0, none⟩ = some (.slice g.ta g.ts.length g.tc) /\ w'.cell? ⟨w.heap.size, 1, none⟩ = some (.slice g.na g.ns.length g.nc) /\ w'.cell? ⟨w.heap.size, 2, none⟩ = some (.int .i64 g.start) /\ w'.cell? ⟨w.heap.size, 3, none⟩ = some (.slice g.pa g.ps.length g.pc) /\ w'.cell? ⟨w.heap.size, 4, none⟩ = some (.slice g.la g.ls.length g.lc)) w5.drew) := KS0.out _ B6.out.2
 refine wp_region_x (S := fun _ => (fun w' : World => w'.cell? ⟨w.heap.size, 0, none⟩ = some (.slice g.ta g.ts.length g.tc) /\ w'.cell? ⟨w.heap.size, 1, none⟩ = some (.slice g.na g.ns.length g.nc) /\ w'.cell? ⟨w.heap.size, 2, none⟩ = some (.int .i64 g.start) /\ w'.cell? ⟨w.heap.size, 3, none⟩ = some (.slice g.pa g.ps.length g.pc) /\ w'.cell? ⟨w.heap.size, 4, none⟩ = some (.slice g.la g.ls.length g.lc))) (by kernel_rfl) ?_
 refine takeF (i := 0) (v := ?_) rfl (by kernel_rfl) (by decide +kernel) (by decide +kernel) (fun _ _ _ h => h) (Or.inl ⟨by rfl, ?_⟩) hs.out ?_
 rotate_left
 ·(intro w hSw; (try dsimp only at hSw); go_simp; try (with_reducible rfl))
 (try simp only [Act.put, lsA, lsZ, lsN])
 refine takeF (i := 1) (v := ?_) rfl (by kernel_rfl) (by decide +kernel) (by decide +kernel) (fun _ _ _ h => h) (Or.inl ⟨by rfl, ?_⟩) hs.out ?_
 rotate_left
 ·(intro w hSw; (try dsimp only at hSw); go_simp; try (with_reducible rfl))
 (try simp only [Act.put, lsA, lsZ, lsN])
 refine takeF (i := 2) (v := ?_) rfl (by kernel_rfl) (by decide +kernel) (by decide +kernel) (fun _ _ _ h => h) (Or.inl ⟨by rfl, ?_⟩) hs.out ?_
 rotate_left
 ·(intro w hSw; (try dsimp only at hSw); go_simp; try (with_reducible rfl))
 (try simp only [Act.put, lsA, lsZ, lsN])
 refine takeF (i := 3) (v := ?_) rfl (by kernel_rfl) (by decide +kernel) (by decide +kernel) (fun _ _ _ h => h) (Or.inl ⟨by rfl, ?_⟩) hs.out ?_
 rotate_left
 ·(intro w hSw; (try dsimp only at hSw); go_simp; try (with_reducible rfl))
 (try simp only [Act.put, lsA, lsZ, lsN])
 refine takeF (i := 4) (v := ?_) rfl (by kernel_rfl) (by decide +kernel) (by decide +kernel) (fun _ _ _ h => h) (Or.inl ⟨by rfl, ?_⟩) hs.out ?_
 rotate_left
 ·(intro w hSw; (try dsimp only at hSw); go_simp; try (with_reducible rfl))
 (try simp only [Act.put, lsA, lsZ, lsN])
 refine takeF (i := 6) (v := ?_) rfl (by kernel_rfl) (by decide +kernel) (by decide +kernel) (fun _ _ _ h => h) (Or.inl ⟨by rfl, ?_⟩) hs.out ?_
 rotate_left
 ·(intro w hSw; (try dsimp only at hSw); go_simp; try (with_reducible rfl))
 (try simp only [Act.put, lsA, lsZ, lsN])
 refine wpAnyX_one (j := 5) (by decide +kernel) rfl (fun K' hK => ?_)
 refine step_callXT (by rfl) 9 #[.int .i64 er] _ (run_numT (v0 := .int .i64 er) (by rfl) (by rfl) _) (num_S er _) ?_
 rintro e w6 ⟨rfl, rfl⟩
 refine ⟨_, rfl, hK.out _ _ hs.out ?_⟩
 clear hK K'
 (try simp only [Act.put, lsA, lsZ, lsN])
 refine wpAnyX_one (j := 7) (by decide +kernel) rfl (fun K' hK => ?_)
 refine step_callXT (by rfl) 8 #[g.val] _ (run_mayT (v0 := g.val) (by rfl) (by rfl) _) (MC.out _ B6.out.1) ?_
 rintro e w7 ⟨rfl, b7⟩
 have B7 : Hid (Below w.heap.size w w7 /\ w7.heap[w.heap.size]? = some (gBox g)) := ⟨B6.out.1.trans (b7.mono B6.out.1.size), tbox_on B6.out.2 b7⟩
 clear b7 hs
 have hs : Hid ((fun w' : World => w'.cell? ⟨w.heap.size, 0, none⟩ = some (.slice g.ta g.ts.length g.tc) /\ w'.cell? ⟨w.heap.size, 1, none⟩ = some (.slice g.na g.ns.length g.nc) /\ w'.cell? ⟨w.heap.size, 2, none⟩ = some (.int .i64 g.start) /\ w'.cell? ⟨w.heap.size, 3, none⟩ = some (.slice g.pa g.ps.length g.pc) /\ w'.cell? ⟨w.heap.size, 4, none⟩ = some (.slice g.la g.ls.length g.lc)) w7) := KS0.out _ B7.out.2
 refine ⟨_, rfl, hK.out _ _ hs.out ?_⟩
 clear hK K'
 (try simp only [Act.put, lsA, lsZ, lsN])
 refine takeF (i := 8) (v := ?_) rfl (by kernel_rfl) (by decide +kernel) (by decide +kernel) (fun _ _ _ h => h) (Or.inl ⟨by rfl, ?_⟩) hs.out ?_
 rotate_left
 ·(intro w hSw; (try dsimp only at hSw); go_simp; try (with_reducible rfl))
 (try simp only [Act.put, lsA, lsZ, lsN])
 refine takeF (i := 9) (v := ?_) rfl (by kernel_rfl) (by decide +kernel) (by decide +kernel) (fun _ _ _ h => h) (Or.inl ⟨by rfl, ?_⟩) hs.out ?_
 rotate_left
 ·(intro w hSw; (try dsimp only at hSw); go_simp; try (with_reducible rfl))
 (try simp only [Act.put, lsA, lsZ, lsN])
 refine takeF (i := 10) (v := ?_) rfl (by kernel_rfl) (by decide +kernel) (by decide +kernel) (fun _ _ _ h => h) (Or.inl ⟨by rfl, ?_⟩) hs.out ?_
 rotate_left
 ·(intro w hSw; (try dsimp only at hSw); go_simp; try (with_reducible rfl))
 (try simp only [Act.put, lsA, lsZ, lsN])
 refine wpAnyX_done (by decide +kernel) ?_
 clear hs
 go_wp2
 go_ret
 exact ⟨rfl, B7.out.1⟩
theorem RT.places {g : GV} (t : TV) (h : RT g t) : ∀ d, ∀ y ∈ plT d t, RT g y.t := by
 induction h using RT.ind with
 | leaf t hp h0 h1 hk =>
  intro d y hy
  rw [plT_eq, hk, plL_nil] at hy
  obtain rfl := List.mem_singleton.1 hy
  exact RT.leaf t hp h0 h1 hk
 | node t h0 h1 hr hk ih =>
  intro d y hy
  rw [plT_eq] at hy
  rcases List.mem_cons.1 hy with rfl | hy
  ·exact RT.node t h0 h1 hr hk
  ·have : ∀ l : List TV, (∀ k ∈ l, ∀ d, ∀ y ∈ plT d k, RT g y.t) -> y ∈ plL (d + 1) l -> RT g y.t := by
    intro l
    induction l with
    | nil => intro _ h; rw [plL_nil] at h; cases h
    | cons k l ihl =>
     intro hl h
     rw [plL_cons] at h
     rcases List.mem_append.1 h with q | q
     ·exact hl k (List.mem_cons_self ..) _ y q
     ·exact ihl (fun k hk => hl k (List.mem_cons_of_mem _ hk)) q
   exact this t.kids ih hy
theorem RT.prodB {g : GV} {t : TV} (h : RT g t) (hp : t.prod ≠ -1) : 0 <= t.prod /\ t.prod < g.ps.length := by
 rcases AllP.here h with ⟨e, _⟩ | ⟨a, b, _⟩
 ·exact absurd e hp
 ·exact ⟨a, b⟩
theorem RT.kindB {g : GV} {t : TV} (h : RT g t) (hp : t.prod = -1) : 0 <= t.kind /\ t.kind < g.ts.length := by
 rcases AllP.here h with ⟨_, a, b, _⟩ | ⟨a, _⟩
 ·exact ⟨a, b⟩
 ·omega
theorem drop_cons {α : Type} {l r : List α} {x : α} {k : Nat} (h : l.drop k = x :: r) : k < l.length /\ l[k]? = some x /\ l.drop (k + 1) = r := by
 have hk : k < l.length := by
  rcases Nat.lt_or_ge k l.length with q | q
  ·exact q
  ·rw [List.drop_eq_nil_of_le q] at h; cases h
 have e := List.drop_eq_getElem_cons hk
 rw [h] at e
 obtain ⟨e1, e2⟩ := List.cons.inj e
 exact ⟨hk, by rw [e1]; exact List.getElem?_eq_getElem hk, e2.symm⟩
structure FFw (g : GV) (t : TV) (w : World) (fb : Nat) (E : List BS) (la : Option Addr) (lc : Nat) (P : List SP) (wr : World) : Prop where
 ls : LsRow wr (some ⟨fb, 0, none⟩) (listsU E)
 fl : FLo wr (.slice la P.length lc) P
 box : wr.heap[w.heap.size]? = some (gBox g)
 bel : Below w.heap.size w wr
theorem FFw.any {g : GV} {t : TV} {w wr w' : World} {fb : Nat} {E : List BS} {la : Option Addr} {lc : Nat} {P : List SP} (h : FFw g t w fb E la lc P wr) (hb : Below wr.heap.size wr w') : FFw g t w fb E la lc P w' :=
 ⟨h.ls.later hb, h.fl.later hb, tbox_on h.box hb, h.bel.trans (hb.mono h.bel.size)⟩
theorem FFw.at {g : GV} {t : TV} {w wr : World} {fb : Nat} {E : List BS} {la : Option Addr} {lc : Nat} {P : List SP} (h : FFw g t w fb E la lc P wr) {b : Nat} (hla : la = some ⟨b, 0, none⟩) {k : Nat} {x : SP} (hk : P[k]? = some x) : wr.cell? ⟨b, k * 4, none⟩ = some (.int .i64 x.t.prod) /\ wr.cell? ⟨b, k * 4 + 1, none⟩ = some (.int .i64 x.t.kind) /\ wr.cell? ⟨b, k * 4 + 3, none⟩ = some (.int .i64 (x.t.kids.length : Int)) := by
 obtain ⟨hlt, hx⟩ := List.getElem?_eq_some_iff.1 hk
 obtain ⟨b', c', hv, -, hc⟩ := RO.cell (f := flCells) (fun _ => rfl) h.fl hlt
 simp only [Value.slice.injEq, true_and] at hv
 obtain ⟨e, -⟩ := hv
 rw [hla] at e
 simp only [Option.some.injEq, Addr.mk.injEq, and_true] at e
 subst e
 rw [hx] at hc
 have c0 := hc 0 (by omega)
 have c1 := hc 1 (by omega)
 have c3 := hc 3 (by omega)
 simp only [flCells, List.getElem?_cons_zero, List.getElem?_cons_succ, Nat.add_zero] at c0 c1 c3
 exact ⟨c0, c1, c3⟩
end Go.Proofs.Ytohgnodjdolcnaa
