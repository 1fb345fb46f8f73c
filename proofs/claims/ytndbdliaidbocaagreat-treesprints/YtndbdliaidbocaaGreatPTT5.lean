import Derived.Test.YtndbdliaidbocaaGreatPTT1ToTT4
namespace Go.Proofs.YtndbdliaidbocaaGreat
set_option linter.unusedVariables false
open Go.RowKit
def ckS (g : GV) (l : List SP) : List SP := l.flatMap fun x => ckT g x.s x.u x.t
theorem ckS_app (g : GV) (l m : List SP) : ckS g (l ++ m) = ckS g l ++ ckS g m := by simp [ckS]
theorem ckS_kids (g : GV) : ∀ (r : List (Int × Int)) (l : List TV), ckS g (ckK r l) = ckL g r l
 | _, [] => by rw [ckL_nil]; rfl
 | r, t :: l => by
  have := ckS_kids g r.tail l
  rw [ckL_cons, <- this]
  rfl
theorem ckS_one (g : GV) (x : SP) (h : x.d = 0) : ckS g [x] = x :: ckS g (ckK (rightU g x.t) x.t.kids) := by
 obtain ⟨t, d, s, u⟩ := x
 obtain rfl : d = 0 := h
 rw [ckS_kids]
 show ckT g s u t ++ [] = _
 rw [List.append_nil, ckT_eq]
theorem ckK_len : ∀ (r : List (Int × Int)) (l : List TV), (ckK r l).length = l.length
 | _, [] => rfl
 | r, t :: l => by rw [ckK, List.length_cons, List.length_cons, ckK_len]
theorem ckK_drop : ∀ (r : List (Int × Int)) (l : List TV) (q : Nat), q < l.length -> (ckK r l).drop q = ⟨l.getD q .none, 0, r.getD q (0, 0), true⟩ :: (ckK r l).drop (q + 1)
 | _, [], _, h => by simp at h
 | r, t :: l, 0, _ => by cases r <;> rfl
 | r, t :: l, q + 1, h => by
  have := ckK_drop r.tail l q (by simpa using h)
  rw [ckK, List.drop_succ_cons, List.drop_succ_cons, this]
  cases r <;> rfl
theorem ck_lens (g : GV) : ∀ (l : List TV), (∀ k ∈ l, ∀ (s : Int × Int) (u : Bool) (d : Int), (ckT g s u k).length = (plT d k).length) -> ∀ (r : List (Int × Int)) (d : Int), (ckL g r l).length = (plL d l).length
 | [], _, r, d => by rw [ckL_nil, plL_nil]
 | t :: l, h, r, d => by
  rw [ckL_cons, plL_cons, List.length_append, List.length_append, h t (List.mem_cons_self ..) _ _ d, ck_lens g l (fun k hk => h k (List.mem_cons_of_mem _ hk)) _ d]
theorem ck_len (g : GV) (t : TV) : ∀ (s : Int × Int) (u : Bool) (d : Int), (ckT g s u t).length = (plT d t).length := by
 induction t using TV.ind with
 | h t ih =>
  intro s u d
  rw [ckT_eq, plT_eq, List.length_cons, List.length_cons, ck_lens g t.kids ih _ (d + 1)]
theorem ckS_len (g : GV) : ∀ l : List SP, l.length <= (ckS g l).length
 | [] => Nat.le_refl _
 | x :: l => by
  have := ckS_len g l
  have e : ckS g (x :: l) = ckT g x.s x.u x.t ++ ckS g l := rfl
  rw [e, ckT_eq]
  simp
  omega
theorem al_node {g : GV} {t : TV} (h : alTU g t = 0) (hk : 0 < t.kids.length) : ∃ j : Nat, t.prod = (j : Int) /\ j < g.ps.length /\ t.kids.length = (g.ps.getD j .none).right.length := by
 unfold alTU at h
 by_cases hp : t.prod = -1
 ·rw [if_pos hp, if_pos (.inr (.inr hk))] at h
  cases h
 ·rw [if_neg hp] at h
  split at h
  ·cases h
  ·rename_i q
   have h0 : ¬ t.prod < 0 := fun e => q (.inl e)
   have h1 : ¬ (g.ps.length : Int) <= t.prod := fun e => q (.inr (.inl e))
   refine ⟨t.prod.toNat, by omega, by omega, ?_⟩
   by_cases e : t.kids.length = (rightU g t).length
   ·exact e
   ·exact absurd (.inr (.inr (.inr (.inr e)))) q
structure CWs (g : GV) (w : World) (S : List SP) (vs : Value) (wr : World) : Prop where
 s : SPo wr vs S
 so : ∀ j, vs.ownBlock = some j -> w.heap.size < j
 box : wr.heap[w.heap.size]? = some (gBox g)
 bel : Below w.heap.size w wr
theorem CWs.any {g : GV} {w wr w' : World} {S : List SP} {vs : Value} (h : CWs g w S vs wr) (hb : Below wr.heap.size wr w') : CWs g w S vs w' :=
 ⟨h.s.later hb, h.so, tbox_on h.box hb, h.bel.trans (hb.mono h.bel.size)⟩
theorem CWs.push {g : GV} {w wr w1 w4 : World} {S : List SP} {vs v' : Value} {y : SP} (h : CWs g w S vs wr) (hb : Below wr.heap.size wr w1) (hg : Grew w1 w4 vs v') (hi : SPo w4 v' (S ++ [y])) : CWs g w (S ++ [y]) v' w4 := by
 have h1 := h.any hb
 have hlt := lt_of_block h1.box
 exact ⟨hi, fun j hj => hg.own (n := w.heap.size + 1) hlt h.so j hj, (hg.grown.block _ hlt (fun e => by have := h.so _ e.symm; omega)).trans h1.box, hg.below h1.bel (Nat.le_refl _) (fun j hj => Nat.le_of_lt (h.so j hj))⟩
theorem CWs.pop {g : GV} {w wr : World} {S : List SP} {x : SP} {vs : Value} (h : CWs g w (S ++ [x]) vs wr) : ∃ b c, vs = .slice (some ⟨b, 0, none⟩) (S.length + 1) c /\ S.length + 1 <= c /\ (∀ j, j < 8 -> wr.cell? ⟨b, S.length * 8 + j, none⟩ = (spCells x)[j]?) /\ CWs g w S (.slice (some ⟨b, 0, none⟩) S.length c) wr := by
 obtain ⟨b, c, rfl, h1, h2, h3⟩ := RO.pop (f := spCells) (fun _ => rfl) h.s
 exact ⟨b, c, rfl, h1, h2, h3, h.so, h.box, h.bel⟩
theorem sym_if (a b c d : Int) (w : World) : (if a = c then if b = d then Result.ok (Next.value (Value.bool false)) w else Result.ok (Next.value (Value.bool true)) w else Result.ok (Next.value (Value.bool true)) w) = Result.ok (Next.value (Value.bool (decide (¬ (a = c /\ b = d))))) w := by
 by_cases h1 : a = c
 ·by_cases h2 : b = d
  ·simp [h1, h2]
  ·simp [h1, h2]
 ·simp [h1]
theorem step_callXT {P : Program} {ops : Array Oper} {Q : Exit -> Act -> World -> Prop} {o : Oper} {a : Act} {w : World} {K : Act -> World -> Prop} {E : Prop} (hw : Region.wanted o (yielded ops a.tmps) = true) (f : FuncId) (args : Array Value) (R : Ending -> World -> Prop)
  (hrun : (execOp a.eval o).run P w = .ok (.enter f args) w) (hC : Calls P f args w R) (hK : ∀ e w', R e w' -> ∃ v, e = .returned v /\ K (a.put o.dst v) w') :
  if Region.wanted o (yielded ops a.tmps) = true then Oper.wp P o a w K Q else E := by
 rw [if_pos hw]
 show o.upon P a K Q ((execOp a.eval o).run P w)
 rw [hrun, Oper.upon_enter]
 refine hC.mono fun e w' hR => ?_
 obtain ⟨v, rfl, hk⟩ := hK e w' hR
 exact hk
theorem run_root {o : Oper} {a : Act} {t0 t1 : TypeId} {v0 v1 : Value} {x0 x1 : Operand} (hop : o.op = Op.call { callee := Callee.value (Operand.func 21), args := #[x0, x1], argTypes := #[t0, t1] }) (h0 : a.eval x0 = v0) (h1 : a.eval x1 = v1) (w : World) : (execOp a.eval o).run Tryz.prog w = .ok (.enter 21 #[v0, v1]) w := by
 have hf : a.eval (Operand.func 21) = .func (.func 21) #[] #[] := rfl
 simp [execOp, hop, resolve, invoke, h0, h1, hf, Deferred.ofValue]
def kidC (g : GV) (x : SP) : List SP := ckK (rightU g x.t) x.t.kids
set_option linter.unusedSimpArgs false in
set_option maxRecDepth 100000 in
set_option maxHeartbeats 16000000 in
theorem check_S (g : GV) (t : TV) (w : World) (h : GAt 140737488355328 w g) (ht : TAt w t) (hsz : (plT 0 t).length <= 100000000) : Calls Tryz.prog 8 #[g.val, t.val] w fun e w' => e = .returned (.tuple #[.int .i64 (runU g (ckT g (0, 0) false t) 0).1, .int .i64 ((runU g (ckT g (0, 0) false t) 0).2 : Int)]) /\ Below w.heap.size w w' := by
 have hpl := h.pl
 have P0 : Hid (CWs g w [⟨t, 0, (0, 0), false⟩] (.slice (some ⟨w.heap.size + 1 + 1, 0, none⟩) 1 1) (((w.alloc (gBox g)).alloc (tBox t)).alloc (spBox ⟨t, 0, (0, 0), false⟩))) := by
  obtain ⟨t0, t1, t2, t3⟩ := three_box w (gBox g) (tBox t) (spBox ⟨t, 0, (0, 0), false⟩)
  have f := sp_first ((w.alloc (gBox g)).alloc (tBox t)) ⟨t, 0, (0, 0), false⟩
  rw [show ((w.alloc (gBox g)).alloc (tBox t)).heap.size = w.heap.size + 1 + 1 by simp] at f
  exact ⟨f, fun j hj => by simp [Value.ownBlock] at hj; omega, t1, t0⟩
 have L0 : Hid (ckS g [(⟨t, 0, (0, 0), false⟩ : SP)].reverse = ckT g (0, 0) false t) := by
  show _ = _
  simp [ckS]
 have HSZ : Hid ((ckT g (0, 0) false t).length <= 100000000) := by show _ <= _; rw [ck_len g t _ _ 0]; exact hsz
 have HT : Hid (∀ x ∈ [(⟨t, 0, (0, 0), false⟩ : SP)], TAt w x.t /\ x.d = 0) := fun x hx => by
  obtain rfl : x = _ := List.mem_singleton.1 hx
  exact ⟨ht, rfl⟩
 have AC : Hid (∀ (y : TV) w', Below w.heap.size w w' -> y.kids.length <= 140737488355328 -> Calls Tryz.prog 20 #[g.val, y.val] w' fun e w'' => e = .returned (.int .i64 (alTU g y)) /\ Below w'.heap.size w' w'') := fun y w' hb hk => alone_S g y w' (h.later hb) hk
 have RC : Hid (∀ (y : TV) w', Below w.heap.size w w' -> Calls Tryz.prog 21 #[g.val, y.val] w' fun e w'' => e = .returned (.agg #[.int .i64 (rootU g y).1, .int .i64 (rootU g y).2]) /\ Below w'.heap.size w' w'') := fun y w' hb => root_S g y w' (h.later hb)
 have HGA : Hid (∀ w', Below w.heap.size w w' -> GAt 140737488355328 w' g) := fun w' hb => h.later hb
 generalize ckT g (0, 0) false t = L at *
 clear hsz ht h
 go_enter Tryz.func8, Tryz.ntmps8
 go_wp2
 go_loopg [6, 7] (L.length + 1) (fun gk vs z wr => ∃ (S : List SP) (pl : Nat), CWs g w S vs wr /\ z = .int .i64 (pl : Int) /\ runU g (ckS g S.reverse) pl = runU g L 0 /\ (ckS g S.reverse).length < gk /\ (pl + (ckS g S.reverse).length <= L.length) /\ ∀ x ∈ S, TAt w x.t /\ x.d = 0)
 case atStart => exact ⟨_, 0, P0.out, rfl, by rw [L0.out], by rw [L0.out]; omega, by rw [L0.out]; omega, HT.out⟩
 case round =>
  clear P0 L0 HT
  obtain ⟨S, pl, hP, rfl, hL, hg, hpl2, hS⟩ := hrel
  have hplb : pl <= 100000000 := by have := HSZ.out; omega
  by_cases hD : S = []
  ·subst hD
   obtain ⟨sa, sc, rfl, _⟩ := hP.s.len
   have R : Hid (runU g L 0 = (0, pl)) := by show _ = _; rw [<- hL]; rfl
   have HP : Hid (Below w.heap.size w wr) := hP.bel
   clear hP hL hg hS hpl2
   go_wp2
   refine bodyPost_ret (results_tmp2 rfl _ _ _) rfl ?_
   rw [R.out]
   exact ⟨rfl, HP.out⟩
  ·obtain ⟨S', x, rfl⟩ : ∃ d x, S = d ++ [x] := ⟨S.dropLast, S.getLast hD, (List.dropLast_concat_getLast hD).symm⟩
   obtain ⟨b, c, rfl, hc, hcell, hP'⟩ := hP.pop
   have hx := hS x (by simp)
   have e1 : ckS g (S' ++ [x]).reverse = x :: (ckS g (kidC g x) ++ ckS g S'.reverse) := by
    rw [List.reverse_append, List.reverse_singleton, ckS_app, ckS_one g x hx.2]
    rfl
   rw [e1] at hL hg hpl2
   have c0 := hcell 0 (by omega)
   have c1 := hcell 1 (by omega)
   have c2 := hcell 2 (by omega)
   have c3 := hcell 3 (by omega)
   have c4 := hcell 4 (by omega)
   have c5 := hcell 5 (by omega)
   have c6 := hcell 6 (by omega)
   have c7 := hcell 7 (by omega)
   simp only [spCells, List.getElem?_cons_zero, List.getElem?_cons_succ, Nat.add_zero, Nat.reduceAdd] at c0 c1 c2 c3 c4 c5 c6 c7
   have hs1 := slice_spot b c (S'.length + 1) S'.length (by omega)
   have HP : Hid (CWs g w S' (.slice (some ⟨b, 0, none⟩) S'.length c) wr) := hP'
   have HL : Hid (runU g (x :: (ckS g (kidC g x) ++ ckS g S'.reverse)) pl = runU g L 0) := hL
   have HX : Hid (TAt w x.t /\ x.d = 0) := hx
   have HS : Hid (∀ y ∈ S', TAt w y.t /\ y.d = 0) := fun y hy => hS y (List.mem_append_left _ hy)
   simp only [List.length_cons, List.length_append] at hg hpl2
   have HG : Hid ((ckS g (kidC g x)).length + (ckS g S'.reverse).length + 1 < gk /\ pl + ((ckS g (kidC g x)).length + (ckS g S'.reverse).length + 1) <= L.length) := ⟨hg, hpl2⟩
   have hnb : S'.length <= 100000000 := by have := HSZ.out; have := ckS_len g S'.reverse; simp at this; omega
   have hkl : x.t.kids.length <= 100000000 := by
    have h1 := HSZ.out
    have h3 := ckS_len g (kidC g x)
    have h4 : (kidC g x).length = x.t.kids.length := ckK_len _ _
    omega
   clear hP hP' hL hx hS hg hcell e1 hD hpl2
   obtain ⟨n, hn⟩ : ∃ n, S'.length = n := ⟨_, rfl⟩
   rw [hn] at c0 c1 c2 c3 c4 c5 c6 c7 hs1 HP hc hnb ⊢
   have HN : Hid (S'.length = n) := hn
   clear hn
   have X0 : Hid ((wr.alloc (spBox x)).heap[wr.heap.size]? = some (spBox x)) := heap_alloc_new _ _
   have HPA : Hid (CWs g w S' (.slice (some ⟨b, 0, none⟩) n c) (wr.alloc (spBox x))) := HP.out.any (below_alloc _ _)
   have HSB : Hid (∀ j, (Value.slice (some ⟨b, 0, none⟩) n c).ownBlock = some j -> j ≠ wr.heap.size) := fun j hj => by have := HP.out.s.lt j hj; omega
   obtain ⟨x0, x1, x2, x3, x4⟩ := gb_cells HP.out.box
   have gbl : w.heap.size < wr.heap.size := lt_of_block HP.out.box
   by_cases he : alTU g x.t = 0
   ·have HE : Hid (alTU g x.t = 0) := he
    have e0 : ((0 : Int) != 0) = false := by decide
    clear he
    go_wp2_with (go_at_call 20; refine (AC.out x.t _ HPA.out.bel (by omega)).mono ?_; rintro _ w2 ⟨rfl, b2⟩; rw [HE.out]; have W2 : Hid (CWs g w S' (.slice (some ⟨b, 0, none⟩) n c) w2 /\ w2.heap[wr.heap.size]? = some (spBox x)) := ⟨HPA.out.any b2, tbox_on X0.out b2⟩; clear b2 x0 x1 x2 x3 x4 c0 c1 c2 c3 c4 c5 c6 c7 hs1)
    have NB : Hid (∀ j, (Value.slice (some ⟨b, 0, none⟩) n c).ownBlock = some j -> j ≠ wr.heap.size) := HSB.out
    clear X0 HPA HSB HP e0
    obtain ⟨nb, hnb2⟩ : ∃ nb, wr.heap.size = nb := ⟨_, rfl⟩
    rw [hnb2] at W2 NB ⊢
    clear hnb2 gbl
    obtain ⟨wz, rfl⟩ : ∃ wz : World, wz = wr := ⟨_, rfl⟩
    cases hu : x.u
    ·have EU : Hid (erU g x = 0) := by
      show _ = _
      unfold erU
      rw [if_neg (by rw [HE.out]; simp), if_neg (by rw [hu]; simp)]
     have KS : Hid (∀ w', w'.heap[w.heap.size]? = some (gBox g) -> w'.heap[nb]? = some (spBox x) -> (fun w' : World => (w'.cell? ⟨w.heap.size, 0, none⟩ = some (.slice g.ta g.ts.length g.tc) /\ w'.cell? ⟨w.heap.size, 1, none⟩ = some (.slice g.na g.ns.length g.nc) /\ w'.cell? ⟨w.heap.size, 2, none⟩ = some (.int .i64 g.start) /\ w'.cell? ⟨w.heap.size, 3, none⟩ = some (.slice g.pa g.ps.length g.pc) /\ w'.cell? ⟨w.heap.size, 4, none⟩ = some (.slice g.la g.ls.length g.lc)) /\ w'.cell? ⟨nb, 0, none⟩ = some (.int .i64 x.t.prod) /\ w'.cell? ⟨nb, 1, none⟩ = some (.int .i64 x.t.kind) /\ w'.cell? ⟨nb, 2, none⟩ = some (.string x.t.tx) /\ w'.cell? ⟨nb, 3, none⟩ = some (.slice x.t.ka x.t.kids.length x.t.kc) /\ w'.cell? ⟨nb, 5, none⟩ = some (.int .i64 x.s.1) /\ w'.cell? ⟨nb, 6, none⟩ = some (.int .i64 x.s.2) /\ w'.cell? ⟨nb, 7, none⟩ = some (.bool false)) w') := fun w' h1 h2 => by
      have z7 := (cellq_any (i := 7) h2).trans rfl
      rw [hu] at z7
      exact ⟨gb_cells h1, (cellq_any (i := 0) h2).trans rfl, (cellq_any (i := 1) h2).trans rfl, (cellq_any (i := 2) h2).trans rfl, (cellq_any (i := 3) h2).trans rfl, (cellq_any (i := 5) h2).trans rfl, (cellq_any (i := 6) h2).trans rfl, z7⟩
     have hs : Hid ((fun w' : World => (w'.cell? ⟨w.heap.size, 0, none⟩ = some (.slice g.ta g.ts.length g.tc) /\ w'.cell? ⟨w.heap.size, 1, none⟩ = some (.slice g.na g.ns.length g.nc) /\ w'.cell? ⟨w.heap.size, 2, none⟩ = some (.int .i64 g.start) /\ w'.cell? ⟨w.heap.size, 3, none⟩ = some (.slice g.pa g.ps.length g.pc) /\ w'.cell? ⟨w.heap.size, 4, none⟩ = some (.slice g.la g.ls.length g.lc)) /\ w'.cell? ⟨nb, 0, none⟩ = some (.int .i64 x.t.prod) /\ w'.cell? ⟨nb, 1, none⟩ = some (.int .i64 x.t.kind) /\ w'.cell? ⟨nb, 2, none⟩ = some (.string x.t.tx) /\ w'.cell? ⟨nb, 3, none⟩ = some (.slice x.t.ka x.t.kids.length x.t.kc) /\ w'.cell? ⟨nb, 5, none⟩ = some (.int .i64 x.s.1) /\ w'.cell? ⟨nb, 6, none⟩ = some (.int .i64 x.s.2) /\ w'.cell? ⟨nb, 7, none⟩ = some (.bool false)) w2.drew) := KS.out _ W2.out.1.box W2.out.2
     clear hu
     refine wp_region_x (S := fun _ => (fun w' : World => (w'.cell? ⟨w.heap.size, 0, none⟩ = some (.slice g.ta g.ts.length g.tc) /\ w'.cell? ⟨w.heap.size, 1, none⟩ = some (.slice g.na g.ns.length g.nc) /\ w'.cell? ⟨w.heap.size, 2, none⟩ = some (.int .i64 g.start) /\ w'.cell? ⟨w.heap.size, 3, none⟩ = some (.slice g.pa g.ps.length g.pc) /\ w'.cell? ⟨w.heap.size, 4, none⟩ = some (.slice g.la g.ls.length g.lc)) /\ w'.cell? ⟨nb, 0, none⟩ = some (.int .i64 x.t.prod) /\ w'.cell? ⟨nb, 1, none⟩ = some (.int .i64 x.t.kind) /\ w'.cell? ⟨nb, 2, none⟩ = some (.string x.t.tx) /\ w'.cell? ⟨nb, 3, none⟩ = some (.slice x.t.ka x.t.kids.length x.t.kc) /\ w'.cell? ⟨nb, 5, none⟩ = some (.int .i64 x.s.1) /\ w'.cell? ⟨nb, 6, none⟩ = some (.int .i64 x.s.2) /\ w'.cell? ⟨nb, 7, none⟩ = some (.bool false))) (by kernel_rfl) ?_
     refine takeF (i := 0) (v := ?_) rfl (by kernel_rfl) (by decide +kernel) (by decide +kernel) (fun _ _ _ h => h) (Or.inl ⟨by rfl, ?_⟩) hs.out ?_
     rotate_left
     ·(intro w hSw; (try dsimp only at hSw); go_simp; try (with_reducible rfl))
     (try simp only [Act.put, List.setIfInBounds_toArray, List.set_cons_zero, List.set_cons_succ])
     refine takeF (i := 1) (v := ?_) rfl (by kernel_rfl) (by decide +kernel) (by decide +kernel) (fun _ _ _ h => h) (Or.inl ⟨by rfl, ?_⟩) hs.out ?_
     rotate_left
     ·(intro w hSw; (try dsimp only at hSw); go_simp; try (with_reducible rfl))
     (try simp only [Act.put, List.setIfInBounds_toArray, List.set_cons_zero, List.set_cons_succ])
     refine takeF (i := 2) (v := ?_) rfl (by kernel_rfl) (by decide +kernel) (by decide +kernel) (fun _ _ _ h => h) (Or.inl ⟨by rfl, ?_⟩) hs.out ?_
     rotate_left
     ·(intro w hSw; (try dsimp only at hSw); go_simp; try (with_reducible rfl))
     (try simp only [Act.put, List.setIfInBounds_toArray, List.set_cons_zero, List.set_cons_succ])
     refine takeF (i := 3) (v := undef) rfl (by kernel_rfl) (by decide +kernel) (by decide +kernel) (fun _ _ _ h => h) (Or.inr ⟨by rfl, rfl⟩) hs.out ?_
     (try simp only [Act.put, List.setIfInBounds_toArray, List.set_cons_zero, List.set_cons_succ])
     refine takeF (i := 4) (v := undef) rfl (by kernel_rfl) (by decide +kernel) (by decide +kernel) (fun _ _ _ h => h) (Or.inr ⟨by rfl, rfl⟩) hs.out ?_
     (try simp only [Act.put, List.setIfInBounds_toArray, List.set_cons_zero, List.set_cons_succ])
     refine takeF (i := 5) (v := undef) rfl (by kernel_rfl) (by decide +kernel) (by decide +kernel) (fun _ _ _ h => h) (Or.inr ⟨by rfl, rfl⟩) hs.out ?_
     (try simp only [Act.put, List.setIfInBounds_toArray, List.set_cons_zero, List.set_cons_succ])
     refine takeF (i := 6) (v := undef) rfl (by kernel_rfl) (by decide +kernel) (by decide +kernel) (fun _ _ _ h => h) (Or.inr ⟨by rfl, rfl⟩) hs.out ?_
     (try simp only [Act.put, List.setIfInBounds_toArray, List.set_cons_zero, List.set_cons_succ])
     refine takeF (i := 7) (v := undef) rfl (by kernel_rfl) (by decide +kernel) (by decide +kernel) (fun _ _ _ h => h) (Or.inr ⟨by rfl, rfl⟩) hs.out ?_
     (try simp only [Act.put, List.setIfInBounds_toArray, List.set_cons_zero, List.set_cons_succ])
     refine takeF (i := 8) (v := undef) rfl (by kernel_rfl) (by decide +kernel) (by decide +kernel) (fun _ _ _ h => h) (Or.inr ⟨by rfl, rfl⟩) hs.out ?_
     (try simp only [Act.put, List.setIfInBounds_toArray, List.set_cons_zero, List.set_cons_succ])
     refine takeF (i := 9) (v := undef) rfl (by kernel_rfl) (by decide +kernel) (by decide +kernel) (fun _ _ _ h => h) (Or.inr ⟨by rfl, rfl⟩) hs.out ?_
     (try simp only [Act.put, List.setIfInBounds_toArray, List.set_cons_zero, List.set_cons_succ])
     refine takeF (i := 10) (v := ?_) rfl (by kernel_rfl) (by decide +kernel) (by decide +kernel) (fun _ _ _ h => h) (Or.inl ⟨by rfl, ?_⟩) hs.out ?_
     rotate_left
     ·(intro w hSw; (try dsimp only at hSw); go_simp; try (with_reducible rfl))
     (try simp only [Act.put, List.setIfInBounds_toArray, List.set_cons_zero, List.set_cons_succ])
     refine wpAnyX_done (by decide +kernel) ?_
     have W3 : Hid (CWs g w S' (.slice (some ⟨b, 0, none⟩) n c) w2.drew /\ w2.drew.heap[nb]? = some (spBox x)) := ⟨W2.out.1.any (Below.refl _ _).drew, W2.out.2⟩
     clear hs KS W2
     generalize w2.drew = w3 at *
     have k3 := (cellq_any (i := 3) W3.out.2).trans rfl
     go_wp2
     clear k3
     have HXR : Hid (∀ w', Below w.heap.size w w' -> KRow w' x.t.ka x.t.kids) := fun w' hb => HX.out.1.row.later hb
     go_loopw [6, 10] (fun vs z wq => ∃ m : Nat, m <= x.t.kids.length /\ z = .int .i64 ((m : Int) - 1) /\ CWs g w (S' ++ ((kidC g x).drop m).reverse) vs wq /\ wq.heap[nb]? = some (spBox x) /\ ∀ j, vs.ownBlock = some j -> j ≠ nb) (fun _ z _ => (intOf z + 1).toNat)
     case atStart =>
      refine ⟨x.t.kids.length, Nat.le_refl _, by go_num, ?_, W3.out.2, NB.out⟩
      rw [show (kidC g x).drop x.t.kids.length = [] from List.drop_eq_nil_of_le (Nat.le_of_eq (ckK_len _ _)), List.reverse_nil, List.append_nil]
      exact W3.out.1
     case round =>
      clear W3 NB
      obtain ⟨m, hm, rfl, hP, hB, hN⟩ := hrel
      obtain ⟨T, hT⟩ : ∃ T, S' ++ ((kidC g x).drop m).reverse = T := ⟨_, rfl⟩
      rw [hT] at hP
      have HTT : Hid (S' ++ ((kidC g x).drop m).reverse = T) := hT
      clear hT
      obtain ⟨va, vc, rfl, _⟩ := hP.s.len
      rcases Nat.eq_zero_or_pos m with rfl | hpos
      ·have R : Hid (∃ (S2 : List SP) (pl2 : Nat), CWs g w S2 (.slice va T.length vc) wr /\ Value.int .i64 ((pl : Int) + 1) = .int .i64 (pl2 : Int) /\ runU g (ckS g S2.reverse) pl2 = runU g L 0 /\ (ckS g S2.reverse).length < gk - 1 /\ (pl2 + (ckS g S2.reverse).length <= L.length) /\ ∀ y ∈ S2, TAt w y.t /\ y.d = 0) := by
        have e : ckS g T.reverse = ckS g (kidC g x) ++ ckS g S'.reverse := by rw [<- HTT.out, List.drop_zero, List.reverse_append, List.reverse_reverse, ckS_app]
        refine ⟨T, pl + 1, hP, by simp, ?_, ?_, ?_, fun y hy => ?_⟩
        ·rw [e, <- HL.out, runU, EU.out]
         simp
        ·rw [e, List.length_append]
         have := HG.out
         omega
        ·rw [e, List.length_append]
         have := HG.out
         omega
        ·rw [<- HTT.out] at hy
         rcases List.mem_append.1 hy with q | q
         ·exact HS.out y q
         ·rw [List.drop_zero] at q
          obtain ⟨q1, q2⟩ := ckK_mem _ _ y (List.mem_reverse.1 q)
          exact ⟨HX.out.1.kid _ q1, q2⟩
       clear hP hB hN
       go_wp2
       go_roundg (gk - 1)
       case measure => have := HG.out; omega
       case rel => exact R.out
      ·obtain ⟨q, rfl⟩ : ∃ q, m = q + 1 := ⟨m - 1, by omega⟩
       obtain ⟨jn, hjn, hjl, hjr⟩ := al_node HE.out (by omega)
       obtain ⟨n2, hn2⟩ : ∃ n2, x.t.kids.length = n2 := ⟨_, rfl⟩
       obtain ⟨y, hy⟩ : ∃ y, x.t.kids.getD q .none = y := ⟨_, rfl⟩
       obtain ⟨kb, ko, hka, -, -⟩ := HXR.out _ hP.bel (by intro e; rw [e] at hm; simp at hm)
       obtain ⟨pb, po, hpa, -, -, -, hrow⟩ := ps_cells (HGA.out _ hP.bel) hjl
       obtain ⟨rb, ro, hra, -, -⟩ := hrow (by intro e; rw [e] at hjr; simp only [List.length_nil] at hjr; omega)
       have KS0 : Hid (∀ w', Below w.heap.size w w' -> w'.heap[w.heap.size]? = some (gBox g) -> w'.heap[nb]? = some (spBox x) -> (fun w' : World => (w'.cell? ⟨nb, 3, none⟩ = some (.slice (some ⟨kb, ko, none⟩) n2 x.t.kc) /\ w'.cell? ⟨nb, 0, none⟩ = some (.int .i64 (jn : Int)) /\ w'.cell? ⟨w.heap.size, 3, none⟩ = some (.slice (some ⟨pb, po, none⟩) g.ps.length g.pc) /\ w'.cell? ⟨pb, po + jn * 3 + 1, none⟩ = some (.slice (some ⟨rb, ro, none⟩) n2 (g.ps.getD jn .none).rc) /\ w'.cell? ⟨rb, ro + q * 2, none⟩ = some (.int .i64 ((g.ps.getD jn .none).right.getD q (0, 0)).1) /\ w'.cell? ⟨rb, ro + q * 2 + 1, none⟩ = some (.int .i64 ((g.ps.getD jn .none).right.getD q (0, 0)).2)) /\ w'.cell? ⟨kb, ko + q * 4, none⟩ = some (.int .i64 y.prod) /\ w'.cell? ⟨kb, ko + q * 4 + 1, none⟩ = some (.int .i64 y.kind) /\ w'.cell? ⟨kb, ko + q * 4 + 2, none⟩ = some (.string y.tx) /\ w'.cell? ⟨kb, ko + q * 4 + 3, none⟩ = some (.slice y.ka y.kids.length y.kc)) w') := fun w' hb hG hB => by
        obtain ⟨kb', ko', hka', hbl', hc'⟩ := HXR.out _ hb (by intro e; rw [e] at hm; simp at hm)
        rw [hka] at hka'
        simp only [Option.some.injEq, Addr.mk.injEq, and_true] at hka'
        obtain ⟨rfl, rfl⟩ := hka'
        obtain ⟨pb', po', hpa', hbl2, d0, d1, hrow'⟩ := ps_cells (HGA.out _ hb) hjl
        rw [hpa] at hpa'
        simp only [Option.some.injEq, Addr.mk.injEq, and_true] at hpa'
        obtain ⟨rfl, rfl⟩ := hpa'
        obtain ⟨rb', ro', hra', hbl3, hcr⟩ := hrow' (by intro e; rw [e] at hjr; simp only [List.length_nil] at hjr; omega)
        rw [hra] at hra'
        simp only [Option.some.injEq, Addr.mk.injEq, and_true] at hra'
        obtain ⟨rfl, rfl⟩ := hra'
        obtain ⟨-, -, -, y3, -⟩ := gb_cells hG
        rw [hpa] at y3
        rw [hra, <- hjr, hn2] at d1
        have z3 := (cellq_any (i := 3) hB).trans rfl
        have z0 := (cellq_any (i := 0) hB).trans rfl
        rw [hka, hn2] at z3
        rw [hjn] at z0
        obtain ⟨r0, r1⟩ := hcr q (by omega)
        have hc2 := hc' q (by omega)
        rw [hy] at hc2
        exact ⟨⟨z3, z0, y3, d1, r0, r1⟩, hc2⟩
       have HT2 : Hid (S' ++ ((kidC g x).drop q).reverse = T ++ [⟨y, 0, (((g.ps.getD jn .none).right.getD q (0, 0)).1, ((g.ps.getD jn .none).right.getD q (0, 0)).2), true⟩]) := by
        show _ = _
        have e := ckK_drop (rightU g x.t) x.t.kids q (by omega)
        rw [hy, show rightU g x.t = (g.ps.getD jn .none).right by unfold rightU; rw [hjn]; rfl] at e
        rw [<- HTT.out]
        unfold kidC
        rw [show rightU g x.t = (g.ps.getD jn .none).right by unfold rightU; rw [hjn]; rfl, e]
        simp
       have HTL : Hid (T.length <= 1000000000) := by
        have h1 := HN.out
        have h2 := congrArg List.length HTT.out
        simp [kidC, ckK_len] at h2
        show _ <= _
        omega
       have HP : Hid (CWs g w T (.slice va T.length vc) wr) := hP
       have HB : Hid (wr.heap[nb]? = some (spBox x)) := hB
       have HNN : Hid (∀ j, (Value.slice va T.length vc).ownBlock = some j -> j ≠ nb) := hN
       have hs : Hid ((fun w' : World => (w'.cell? ⟨nb, 3, none⟩ = some (.slice (some ⟨kb, ko, none⟩) n2 x.t.kc) /\ w'.cell? ⟨nb, 0, none⟩ = some (.int .i64 (jn : Int)) /\ w'.cell? ⟨w.heap.size, 3, none⟩ = some (.slice (some ⟨pb, po, none⟩) g.ps.length g.pc) /\ w'.cell? ⟨pb, po + jn * 3 + 1, none⟩ = some (.slice (some ⟨rb, ro, none⟩) n2 (g.ps.getD jn .none).rc) /\ w'.cell? ⟨rb, ro + q * 2, none⟩ = some (.int .i64 ((g.ps.getD jn .none).right.getD q (0, 0)).1) /\ w'.cell? ⟨rb, ro + q * 2 + 1, none⟩ = some (.int .i64 ((g.ps.getD jn .none).right.getD q (0, 0)).2)) /\ w'.cell? ⟨kb, ko + q * 4, none⟩ = some (.int .i64 y.prod) /\ w'.cell? ⟨kb, ko + q * 4 + 1, none⟩ = some (.int .i64 y.kind) /\ w'.cell? ⟨kb, ko + q * 4 + 2, none⟩ = some (.string y.tx) /\ w'.cell? ⟨kb, ko + q * 4 + 3, none⟩ = some (.slice y.ka y.kids.length y.kc)) wr.drew) := KS0.out _ hP.bel.drew hP.box hB
       have hq2 : q < n2 := by omega
       have hq3 : (q : Int) < (n2 : Int) := by omega
       have jlt : (jn : Int) < (g.ps.length : Int) := by omega
       have HKL : Hid (q < x.t.kids.length) := by rw [hn2]; exact hq2
       have e6 : ((q + 1 : Nat) : Int) - 1 = (q : Int) := by omega
       rw [e6]
       rw [hn2] at hkl hm
       clear hP hB hN hka hpos hm hn2 hy e6 hjn hjr hpa hrow hra
       have HPY : Hid (spBox ⟨y, 0, (((g.ps.getD jn .none).right.getD q (0, 0)).1, ((g.ps.getD jn .none).right.getD q (0, 0)).2), true⟩ = .cells #[.int .i64 y.prod, .int .i64 y.kind, .string y.tx, .slice y.ka y.kids.length y.kc, .int .i64 0, .int .i64 ((g.ps.getD jn .none).right.getD q (0, 0)).1, .int .i64 ((g.ps.getD jn .none).right.getD q (0, 0)).2, .bool true] 76) := rfl
       have HN0 : Hid (∀ j u, (spCells ⟨y, 0, (((g.ps.getD jn .none).right.getD q (0, 0)).1, ((g.ps.getD jn .none).right.getD q (0, 0)).2), true⟩)[j]? = some u -> (wr.alloc (.cells #[.int .i64 y.prod, .int .i64 y.kind, .string y.tx, .slice y.ka y.kids.length y.kc, .int .i64 0, .int .i64 ((g.ps.getD jn .none).right.getD q (0, 0)).1, .int .i64 ((g.ps.getD jn .none).right.getD q (0, 0)).2, .bool true] 76)).drew.cell? ⟨wr.heap.size, j, none⟩ = some u) := fun j u hu => sp_new wr ⟨y, 0, (((g.ps.getD jn .none).right.getD q (0, 0)).1, ((g.ps.getD jn .none).right.getD q (0, 0)).2), true⟩ j u hu
       clear HPY
       generalize ((g.ps.getD jn .none).right.getD q (0, 0)).1 = s1 at *
       generalize ((g.ps.getD jn .none).right.getD q (0, 0)).2 = s2 at *
       generalize (g.ps.getD jn .none).rc = rc2 at *
       generalize y.prod = p at *
       generalize y.kind = kd at *
       generalize y.tx = tx at *
       generalize y.ka = ka at *
       generalize y.kids.length = kn at *
       generalize y.kc = kkc at *
       generalize x.t.kc = kc2 at *
       go_wp2
       refine wp_region_x (S := fun _ => (fun w' : World => (w'.cell? ⟨nb, 3, none⟩ = some (.slice (some ⟨kb, ko, none⟩) n2 kc2) /\ w'.cell? ⟨nb, 0, none⟩ = some (.int .i64 (jn : Int)) /\ w'.cell? ⟨w.heap.size, 3, none⟩ = some (.slice (some ⟨pb, po, none⟩) g.ps.length g.pc) /\ w'.cell? ⟨pb, po + jn * 3 + 1, none⟩ = some (.slice (some ⟨rb, ro, none⟩) n2 rc2) /\ w'.cell? ⟨rb, ro + q * 2, none⟩ = some (.int .i64 s1) /\ w'.cell? ⟨rb, ro + q * 2 + 1, none⟩ = some (.int .i64 s2)) /\ w'.cell? ⟨kb, ko + q * 4, none⟩ = some (.int .i64 p) /\ w'.cell? ⟨kb, ko + q * 4 + 1, none⟩ = some (.int .i64 kd) /\ w'.cell? ⟨kb, ko + q * 4 + 2, none⟩ = some (.string tx) /\ w'.cell? ⟨kb, ko + q * 4 + 3, none⟩ = some (.slice ka kn kkc))) (by kernel_rfl) ?_
       refine takeF (i := 0) (v := ?_) rfl (by kernel_rfl) (by decide +kernel) (by decide +kernel) (fun _ _ _ h => h) (Or.inl ⟨by rfl, ?_⟩) hs.out ?_
       rotate_left
       ·(intro w hSw; (try dsimp only at hSw); go_simp; try (with_reducible rfl))
       (try simp only [Act.put, List.setIfInBounds_toArray, List.set_cons_zero, List.set_cons_succ])
       refine takeF (i := 1) (v := ?_) rfl (by kernel_rfl) (by decide +kernel) (by decide +kernel) (fun _ _ _ h => h) (Or.inl ⟨by rfl, ?_⟩) hs.out ?_
       rotate_left
       ·(intro w hSw; (try dsimp only at hSw); go_simp; try (with_reducible rfl))
       (try simp only [Act.put, List.setIfInBounds_toArray, List.set_cons_zero, List.set_cons_succ])
       refine takeF (i := 2) (v := ?_) rfl (by kernel_rfl) (by decide +kernel) (by decide +kernel) (fun _ _ _ h => h) (Or.inl ⟨by rfl, ?_⟩) hs.out ?_
       rotate_left
       ·(intro w hSw; (try dsimp only at hSw); go_simp; try (with_reducible rfl))
       (try simp only [Act.put, List.setIfInBounds_toArray, List.set_cons_zero, List.set_cons_succ])
       refine takeF (i := 3) (v := ?_) rfl (by kernel_rfl) (by decide +kernel) (by decide +kernel) (fun _ _ _ h => h) (Or.inl ⟨by rfl, ?_⟩) hs.out ?_
       rotate_left
       ·(intro w hSw; (try dsimp only at hSw); go_simp; try (with_reducible rfl))
       (try simp only [Act.put, List.setIfInBounds_toArray, List.set_cons_zero, List.set_cons_succ])
       refine takeF (i := 4) (v := ?_) rfl (by kernel_rfl) (by decide +kernel) (by decide +kernel) (fun _ _ _ h => h) (Or.inl ⟨by rfl, ?_⟩) hs.out ?_
       rotate_left
       ·(intro w hSw; (try dsimp only at hSw); go_simp; try (with_reducible rfl))
       (try simp only [Act.put, List.setIfInBounds_toArray, List.set_cons_zero, List.set_cons_succ])
       refine takeF (i := 5) (v := ?_) rfl (by kernel_rfl) (by decide +kernel) (by decide +kernel) (fun _ _ _ h => h) (Or.inl ⟨by rfl, ?_⟩) hs.out ?_
       rotate_left
       ·(intro w hSw; (try dsimp only at hSw); go_simp; try (with_reducible rfl))
       (try simp only [Act.put, List.setIfInBounds_toArray, List.set_cons_zero, List.set_cons_succ])
       refine takeF (i := 6) (v := ?_) rfl (by kernel_rfl) (by decide +kernel) (by decide +kernel) (fun _ _ _ h => h) (Or.inl ⟨by rfl, ?_⟩) hs.out ?_
       rotate_left
       ·(intro w hSw; (try dsimp only at hSw); go_simp; try (with_reducible rfl))
       (try simp only [Act.put, List.setIfInBounds_toArray, List.set_cons_zero, List.set_cons_succ])
       refine takeF (i := 7) (v := ?_) rfl (by kernel_rfl) (by decide +kernel) (by decide +kernel) (fun _ _ _ h => h) (Or.inl ⟨by rfl, ?_⟩) hs.out ?_
       rotate_left
       ·(intro w hSw; (try dsimp only at hSw); go_simp; try (with_reducible rfl))
       (try simp only [Act.put, List.setIfInBounds_toArray, List.set_cons_zero, List.set_cons_succ])
       refine takeF (i := 8) (v := ?_) rfl (by kernel_rfl) (by decide +kernel) (by decide +kernel) (fun _ _ _ h => h) (Or.inl ⟨by rfl, ?_⟩) hs.out ?_
       rotate_left
       ·(intro w hSw; (try dsimp only at hSw); go_simp; try (with_reducible rfl))
       (try simp only [Act.put, List.setIfInBounds_toArray, List.set_cons_zero, List.set_cons_succ])
       refine takeF (i := 9) (v := ?_) rfl (by kernel_rfl) (by decide +kernel) (by decide +kernel) (fun _ _ _ h => h) (Or.inl ⟨by rfl, ?_⟩) hs.out ?_
       rotate_left
       ·(intro w hSw; (try dsimp only at hSw); go_simp; try (with_reducible rfl))
       (try simp only [Act.put, List.setIfInBounds_toArray, List.set_cons_zero, List.set_cons_succ])
       refine takeF (i := 10) (v := ?_) rfl (by kernel_rfl) (by decide +kernel) (by decide +kernel) (fun _ _ _ h => h) (Or.inl ⟨by rfl, ?_⟩) hs.out ?_
       rotate_left
       ·(intro w hSw; (try dsimp only at hSw); go_simp; try (with_reducible rfl))
       (try simp only [Act.put, List.setIfInBounds_toArray, List.set_cons_zero, List.set_cons_succ])
       refine takeF (i := 11) (v := ?_) rfl (by kernel_rfl) (by decide +kernel) (by decide +kernel) (fun _ _ _ h => h) (Or.inl ⟨by rfl, ?_⟩) hs.out ?_
       rotate_left
       ·(intro w hSw; (try dsimp only at hSw); go_simp; try (with_reducible rfl))
       (try simp only [Act.put, List.setIfInBounds_toArray, List.set_cons_zero, List.set_cons_succ])
       refine takeF (i := 12) (v := ?_) rfl (by kernel_rfl) (by decide +kernel) (by decide +kernel) (fun _ _ _ h => h) (Or.inl ⟨by rfl, ?_⟩) hs.out ?_
       rotate_left
       ·(intro w hSw; (try dsimp only at hSw); go_simp; try (with_reducible rfl))
       (try simp only [Act.put, List.setIfInBounds_toArray, List.set_cons_zero, List.set_cons_succ])
       refine takeF (i := 13) (v := ?_) rfl (by kernel_rfl) (by decide +kernel) (by decide +kernel) (fun _ _ _ h => h) (Or.inl ⟨by rfl, ?_⟩) hs.out ?_
       rotate_left
       ·(intro w hSw; (try dsimp only at hSw); go_simp; try (with_reducible rfl))
       (try simp only [Act.put, List.setIfInBounds_toArray, List.set_cons_zero, List.set_cons_succ])
       refine takeF (i := 14) (v := ?_) rfl (by kernel_rfl) (by decide +kernel) (by decide +kernel) (fun _ _ _ h => h) (Or.inl ⟨by rfl, ?_⟩) hs.out ?_
       rotate_left
       ·(intro w hSw; (try dsimp only at hSw); go_simp; try (with_reducible rfl))
       (try simp only [Act.put, List.setIfInBounds_toArray, List.set_cons_zero, List.set_cons_succ])
       refine takeF (i := 15) (v := ?_) rfl (by kernel_rfl) (by decide +kernel) (by decide +kernel) (fun _ _ _ h => h) (Or.inl ⟨by rfl, ?_⟩) hs.out ?_
       rotate_left
       ·(intro w hSw; (try dsimp only at hSw); go_simp; try (with_reducible rfl))
       (try simp only [Act.put, List.setIfInBounds_toArray, List.set_cons_zero, List.set_cons_succ])
       refine takeF (i := 16) (v := ?_) rfl (by kernel_rfl) (by decide +kernel) (by decide +kernel) (fun _ _ _ h => h) (Or.inl ⟨by rfl, ?_⟩) hs.out ?_
       rotate_left
       ·(intro w hSw; (try dsimp only at hSw); go_simp; try (with_reducible rfl))
       (try simp only [Act.put, List.setIfInBounds_toArray, List.set_cons_zero, List.set_cons_succ])
       refine takeF (i := 17) (v := ?_) rfl (by kernel_rfl) (by decide +kernel) (by decide +kernel) (fun _ _ _ h => h) (Or.inl ⟨by rfl, ?_⟩) hs.out ?_
       rotate_left
       ·(intro w hSw; (try dsimp only at hSw); go_simp; try (with_reducible rfl))
       (try simp only [Act.put, List.setIfInBounds_toArray, List.set_cons_zero, List.set_cons_succ])
       refine takeF (i := 18) (v := ?_) rfl (by kernel_rfl) (by decide +kernel) (by decide +kernel) (fun _ _ _ h => h) (Or.inl ⟨by rfl, ?_⟩) hs.out ?_
       rotate_left
       ·(intro w hSw; (try dsimp only at hSw); go_simp; try (with_reducible rfl))
       (try simp only [Act.put, List.setIfInBounds_toArray, List.set_cons_zero, List.set_cons_succ])
       refine wpAnyX_one (j := 19) (by decide +kernel) rfl (fun K' hK => ?_)
       go_simp
       refine hK.out _ _ (KS0.out _ (HP.out.bel.trans (((below_alloc _ _).drew).mono HP.out.bel.size)) (tbox_on HP.out.box (below_alloc _ _).drew) (tbox_on HB.out (below_alloc _ _).drew)) ?_
       clear hK K'
       (try simp only [Act.put, List.setIfInBounds_toArray, List.set_cons_zero, List.set_cons_succ])
       refine wpAnyX_one (j := 20) (by decide +kernel) rfl (fun K' hK => ?_)
       refine step_ro_append rkSpot (by rfl) _ _ (by rfl) (.slice va T.length vc) T (by rfl) (HP.out.s.later (below_alloc _ _).drew) wr.heap.size 1 ⟨y, 0, (s1, s2), true⟩ (by rfl) HN0.out HTL.out ?_
       intro a5 n5 c5 w5 ho5 hg5
       have hbx : Below wr.heap.size wr (wr.alloc (.cells #[.int .i64 p, .int .i64 kd, .string tx, .slice ka kn kkc, .int .i64 0, .int .i64 s1, .int .i64 s2, .bool true] 76)).drew := (below_alloc _ _).drew
       have W5 : Hid (CWs g w (T ++ [⟨y, 0, (s1, s2), true⟩]) (.slice a5 n5 c5) w5) := HP.out.push hbx hg5 ho5
       have B5 : Hid (w5.heap[nb]? = some (spBox x)) := (hg5.grown.block nb (Nat.lt_of_lt_of_le (lt_of_block HB.out) hbx.size) (fun e => HNN.out nb e.symm rfl)).trans (tbox_on HB.out hbx)
       have N5 : Hid (∀ j, (Value.slice a5 n5 c5).ownBlock = some j -> j ≠ nb) := fun j hj => by
        have hz := lt_of_block HB.out
        have hz2 := hbx.size
        rcases hg5.moved with e | ⟨k, e, hk⟩
        ·exact HNN.out j (by rw [<- e]; exact hj)
        ·rw [e] at hj
         simp only [Option.some.injEq] at hj
         omega
       refine hK.out _ _ (KS0.out _ W5.out.bel W5.out.box B5.out) ?_
       clear hK K' ho5 hg5 hbx
       (try simp only [Act.put, List.setIfInBounds_toArray, List.set_cons_zero, List.set_cons_succ])
       refine wpAnyX_one (j := 21) (by decide +kernel) rfl (fun K' hK => ?_)
       go_simp
       refine hK.out _ _ (KS0.out _ W5.out.bel W5.out.box B5.out) ?_
       clear hK K'
       (try simp only [Act.put, List.setIfInBounds_toArray, List.set_cons_zero, List.set_cons_succ])
       refine wpAnyX_done (by decide +kernel) ?_
       clear hs KS0
       go_wp2
       go_roundw
       case rel => exact ⟨q, Nat.le_of_lt HKL.out, by go_num, by rw [HT2.out]; exact W5.out, B5.out, N5.out⟩
       case measure => simp [intOf]
    ·by_cases hrs : rootU g x.t = x.s
     ·have EU : Hid (erU g x = 0) := by
       show _ = _
       unfold erU
       rw [if_neg (by rw [HE.out]; simp), if_neg (by rw [hrs]; simp)]
      have hq : decide (¬ ((rootU g x.t).1 = x.s.1 /\ (rootU g x.t).2 = x.s.2)) = false := by rw [hrs]; simp
      clear hrs
      have KS : Hid (∀ w', w'.heap[w.heap.size]? = some (gBox g) -> w'.heap[nb]? = some (spBox x) -> (fun w' : World => (w'.cell? ⟨w.heap.size, 0, none⟩ = some (.slice g.ta g.ts.length g.tc) /\ w'.cell? ⟨w.heap.size, 1, none⟩ = some (.slice g.na g.ns.length g.nc) /\ w'.cell? ⟨w.heap.size, 2, none⟩ = some (.int .i64 g.start) /\ w'.cell? ⟨w.heap.size, 3, none⟩ = some (.slice g.pa g.ps.length g.pc) /\ w'.cell? ⟨w.heap.size, 4, none⟩ = some (.slice g.la g.ls.length g.lc)) /\ w'.cell? ⟨nb, 0, none⟩ = some (.int .i64 x.t.prod) /\ w'.cell? ⟨nb, 1, none⟩ = some (.int .i64 x.t.kind) /\ w'.cell? ⟨nb, 2, none⟩ = some (.string x.t.tx) /\ w'.cell? ⟨nb, 3, none⟩ = some (.slice x.t.ka x.t.kids.length x.t.kc) /\ w'.cell? ⟨nb, 5, none⟩ = some (.int .i64 x.s.1) /\ w'.cell? ⟨nb, 6, none⟩ = some (.int .i64 x.s.2) /\ w'.cell? ⟨nb, 7, none⟩ = some (.bool true)) w') := fun w' h1 h2 => by
       have z7 := (cellq_any (i := 7) h2).trans rfl
       rw [hu] at z7
       exact ⟨gb_cells h1, (cellq_any (i := 0) h2).trans rfl, (cellq_any (i := 1) h2).trans rfl, (cellq_any (i := 2) h2).trans rfl, (cellq_any (i := 3) h2).trans rfl, (cellq_any (i := 5) h2).trans rfl, (cellq_any (i := 6) h2).trans rfl, z7⟩
      have hs : Hid ((fun w' : World => (w'.cell? ⟨w.heap.size, 0, none⟩ = some (.slice g.ta g.ts.length g.tc) /\ w'.cell? ⟨w.heap.size, 1, none⟩ = some (.slice g.na g.ns.length g.nc) /\ w'.cell? ⟨w.heap.size, 2, none⟩ = some (.int .i64 g.start) /\ w'.cell? ⟨w.heap.size, 3, none⟩ = some (.slice g.pa g.ps.length g.pc) /\ w'.cell? ⟨w.heap.size, 4, none⟩ = some (.slice g.la g.ls.length g.lc)) /\ w'.cell? ⟨nb, 0, none⟩ = some (.int .i64 x.t.prod) /\ w'.cell? ⟨nb, 1, none⟩ = some (.int .i64 x.t.kind) /\ w'.cell? ⟨nb, 2, none⟩ = some (.string x.t.tx) /\ w'.cell? ⟨nb, 3, none⟩ = some (.slice x.t.ka x.t.kids.length x.t.kc) /\ w'.cell? ⟨nb, 5, none⟩ = some (.int .i64 x.s.1) /\ w'.cell? ⟨nb, 6, none⟩ = some (.int .i64 x.s.2) /\ w'.cell? ⟨nb, 7, none⟩ = some (.bool true)) w2.drew) := KS.out _ W2.out.1.box W2.out.2
      clear hu
      have RCX := RC.out x.t w2.drew W2.out.1.bel.drew
      have HRC : Hid (Calls Tryz.prog 21 #[g.val, x.t.val] w2.drew fun e w'' => e = .returned (.agg #[.int .i64 (rootU g x.t).1, .int .i64 (rootU g x.t).2]) /\ Below w2.drew.heap.size w2.drew w'') := RCX
      clear RCX
      refine wp_region_x (S := fun _ => (fun w' : World => (w'.cell? ⟨w.heap.size, 0, none⟩ = some (.slice g.ta g.ts.length g.tc) /\ w'.cell? ⟨w.heap.size, 1, none⟩ = some (.slice g.na g.ns.length g.nc) /\ w'.cell? ⟨w.heap.size, 2, none⟩ = some (.int .i64 g.start) /\ w'.cell? ⟨w.heap.size, 3, none⟩ = some (.slice g.pa g.ps.length g.pc) /\ w'.cell? ⟨w.heap.size, 4, none⟩ = some (.slice g.la g.ls.length g.lc)) /\ w'.cell? ⟨nb, 0, none⟩ = some (.int .i64 x.t.prod) /\ w'.cell? ⟨nb, 1, none⟩ = some (.int .i64 x.t.kind) /\ w'.cell? ⟨nb, 2, none⟩ = some (.string x.t.tx) /\ w'.cell? ⟨nb, 3, none⟩ = some (.slice x.t.ka x.t.kids.length x.t.kc) /\ w'.cell? ⟨nb, 5, none⟩ = some (.int .i64 x.s.1) /\ w'.cell? ⟨nb, 6, none⟩ = some (.int .i64 x.s.2) /\ w'.cell? ⟨nb, 7, none⟩ = some (.bool true))) (by kernel_rfl) ?_
      refine takeF (i := 0) (v := ?_) rfl (by kernel_rfl) (by decide +kernel) (by decide +kernel) (fun _ _ _ h => h) (Or.inl ⟨by rfl, ?_⟩) hs.out ?_
      rotate_left
      ·(intro w hSw; (try dsimp only at hSw); go_simp; try (with_reducible rfl))
      (try simp only [Act.put, List.setIfInBounds_toArray, List.set_cons_zero, List.set_cons_succ])
      refine takeF (i := 1) (v := ?_) rfl (by kernel_rfl) (by decide +kernel) (by decide +kernel) (fun _ _ _ h => h) (Or.inl ⟨by rfl, ?_⟩) hs.out ?_
      rotate_left
      ·(intro w hSw; (try dsimp only at hSw); go_simp; try (with_reducible rfl))
      (try simp only [Act.put, List.setIfInBounds_toArray, List.set_cons_zero, List.set_cons_succ])
      refine takeF (i := 2) (v := ?_) rfl (by kernel_rfl) (by decide +kernel) (by decide +kernel) (fun _ _ _ h => h) (Or.inl ⟨by rfl, ?_⟩) hs.out ?_
      rotate_left
      ·(intro w hSw; (try dsimp only at hSw); go_simp; try (with_reducible rfl))
      (try simp only [Act.put, List.setIfInBounds_toArray, List.set_cons_zero, List.set_cons_succ])
      refine takeF (i := 3) (v := ?_) rfl (by kernel_rfl) (by decide +kernel) (by decide +kernel) (fun _ _ _ h => h) (Or.inl ⟨by rfl, ?_⟩) hs.out ?_
      rotate_left
      ·(intro w hSw; (try dsimp only at hSw); go_simp; try (with_reducible rfl))
      (try simp only [Act.put, List.setIfInBounds_toArray, List.set_cons_zero, List.set_cons_succ])
      refine takeF (i := 4) (v := ?_) rfl (by kernel_rfl) (by decide +kernel) (by decide +kernel) (fun _ _ _ h => h) (Or.inl ⟨by rfl, ?_⟩) hs.out ?_
      rotate_left
      ·(intro w hSw; (try dsimp only at hSw); go_simp; try (with_reducible rfl))
      (try simp only [Act.put, List.setIfInBounds_toArray, List.set_cons_zero, List.set_cons_succ])
      refine takeF (i := 5) (v := ?_) rfl (by kernel_rfl) (by decide +kernel) (by decide +kernel) (fun _ _ _ h => h) (Or.inl ⟨by rfl, ?_⟩) hs.out ?_
      rotate_left
      ·(intro w hSw; (try dsimp only at hSw); go_simp; try (with_reducible rfl))
      (try simp only [Act.put, List.setIfInBounds_toArray, List.set_cons_zero, List.set_cons_succ])
      refine takeF (i := 7) (v := ?_) rfl (by kernel_rfl) (by decide +kernel) (by decide +kernel) (fun _ _ _ h => h) (Or.inl ⟨by rfl, ?_⟩) hs.out ?_
      rotate_left
      ·(intro w hSw; (try dsimp only at hSw); go_simp; try (with_reducible rfl))
      (try simp only [Act.put, List.setIfInBounds_toArray, List.set_cons_zero, List.set_cons_succ])
      refine takeF (i := 8) (v := ?_) rfl (by kernel_rfl) (by decide +kernel) (by decide +kernel) (fun _ _ _ h => h) (Or.inl ⟨by rfl, ?_⟩) hs.out ?_
      rotate_left
      ·(intro w hSw; (try dsimp only at hSw); go_simp; try (with_reducible rfl))
      (try simp only [Act.put, List.setIfInBounds_toArray, List.set_cons_zero, List.set_cons_succ])
      refine wpAnyX_one (j := 6) (by decide +kernel) rfl (fun K' hK => ?_)
      refine step_callXT (by rfl) 21 #[g.val, x.t.val] _ (run_root (v0 := g.val) (v1 := x.t.val) rfl (by rfl) (by rfl) _) HRC.out ?_
      rintro e w5 ⟨rfl, b5⟩
      have W5 : Hid (CWs g w S' (.slice (some ⟨b, 0, none⟩) n c) w5 /\ w5.heap[nb]? = some (spBox x)) := ⟨(W2.out.1.any (Below.refl _ _).drew).any b5, tbox_on (w := w2.drew) W2.out.2 b5⟩
      clear b5
      refine ⟨_, rfl, hK.out _ _ (KS.out _ W5.out.1.box W5.out.2) ?_⟩
      clear hK K'
      (try simp only [Act.put, List.setIfInBounds_toArray, List.set_cons_zero, List.set_cons_succ])
      refine takeF (i := 9) (v := ?_) rfl (by kernel_rfl) (by decide +kernel) (by decide +kernel) (fun _ _ _ h => h) (Or.inl ⟨by rfl, ?_⟩) (KS.out _ W5.out.1.box W5.out.2) ?_
      rotate_left
      ·(intro w hSw; (try dsimp only at hSw); go_simp; exact sym_if _ _ _ _ w)
      (try simp only [Act.put, List.setIfInBounds_toArray, List.set_cons_zero, List.set_cons_succ])
      generalize decide (¬ ((rootU g x.t).1 = x.s.1 /\ (rootU g x.t).2 = x.s.2)) = bv at hq ⊢
      subst hq
      refine takeF (i := 10) (v := ?_) rfl (by kernel_rfl) (by decide +kernel) (by decide +kernel) (fun _ _ _ h => h) (Or.inl ⟨by rfl, ?_⟩) (KS.out _ W5.out.1.box W5.out.2) ?_
      rotate_left
      ·(intro w hSw; (try dsimp only at hSw); go_simp; try (with_reducible rfl))
      (try simp only [Act.put, List.setIfInBounds_toArray, List.set_cons_zero, List.set_cons_succ])
      refine wpAnyX_done (by decide +kernel) ?_
      clear hs KS W2 HRC
      have W3 : Hid (CWs g w S' (.slice (some ⟨b, 0, none⟩) n c) w5 /\ w5.heap[nb]? = some (spBox x)) := W5.out
      clear W5
      obtain ⟨w3, rfl⟩ : ∃ w3 : World, w3 = w5 := ⟨_, rfl⟩
      have k3 := (cellq_any (i := 3) W3.out.2).trans rfl
      go_wp2
      clear k3
      have HXR : Hid (∀ w', Below w.heap.size w w' -> KRow w' x.t.ka x.t.kids) := fun w' hb => HX.out.1.row.later hb
      go_loopw [6, 10] (fun vs z wq => ∃ m : Nat, m <= x.t.kids.length /\ z = .int .i64 ((m : Int) - 1) /\ CWs g w (S' ++ ((kidC g x).drop m).reverse) vs wq /\ wq.heap[nb]? = some (spBox x) /\ ∀ j, vs.ownBlock = some j -> j ≠ nb) (fun _ z _ => (intOf z + 1).toNat)
      case atStart =>
       refine ⟨x.t.kids.length, Nat.le_refl _, by go_num, ?_, W3.out.2, NB.out⟩
       rw [show (kidC g x).drop x.t.kids.length = [] from List.drop_eq_nil_of_le (Nat.le_of_eq (ckK_len _ _)), List.reverse_nil, List.append_nil]
       exact W3.out.1
      case round =>
       clear W3 NB
       obtain ⟨m, hm, rfl, hP, hB, hN⟩ := hrel
       obtain ⟨T, hT⟩ : ∃ T, S' ++ ((kidC g x).drop m).reverse = T := ⟨_, rfl⟩
       rw [hT] at hP
       have HTT : Hid (S' ++ ((kidC g x).drop m).reverse = T) := hT
       clear hT
       obtain ⟨va, vc, rfl, _⟩ := hP.s.len
       rcases Nat.eq_zero_or_pos m with rfl | hpos
       ·have R : Hid (∃ (S2 : List SP) (pl2 : Nat), CWs g w S2 (.slice va T.length vc) wr /\ Value.int .i64 ((pl : Int) + 1) = .int .i64 (pl2 : Int) /\ runU g (ckS g S2.reverse) pl2 = runU g L 0 /\ (ckS g S2.reverse).length < gk - 1 /\ (pl2 + (ckS g S2.reverse).length <= L.length) /\ ∀ y ∈ S2, TAt w y.t /\ y.d = 0) := by
         have e : ckS g T.reverse = ckS g (kidC g x) ++ ckS g S'.reverse := by rw [<- HTT.out, List.drop_zero, List.reverse_append, List.reverse_reverse, ckS_app]
         refine ⟨T, pl + 1, hP, by simp, ?_, ?_, ?_, fun y hy => ?_⟩
         ·rw [e, <- HL.out, runU, EU.out]
          simp
         ·rw [e, List.length_append]
          have := HG.out
          omega
         ·rw [e, List.length_append]
          have := HG.out
          omega
         ·rw [<- HTT.out] at hy
          rcases List.mem_append.1 hy with q | q
          ·exact HS.out y q
          ·rw [List.drop_zero] at q
           obtain ⟨q1, q2⟩ := ckK_mem _ _ y (List.mem_reverse.1 q)
           exact ⟨HX.out.1.kid _ q1, q2⟩
        clear hP hB hN
        go_wp2
        go_roundg (gk - 1)
        case measure => have := HG.out; omega
        case rel => exact R.out
       ·obtain ⟨q, rfl⟩ : ∃ q, m = q + 1 := ⟨m - 1, by omega⟩
        obtain ⟨jn, hjn, hjl, hjr⟩ := al_node HE.out (by omega)
        obtain ⟨n2, hn2⟩ : ∃ n2, x.t.kids.length = n2 := ⟨_, rfl⟩
        obtain ⟨y, hy⟩ : ∃ y, x.t.kids.getD q .none = y := ⟨_, rfl⟩
        obtain ⟨kb, ko, hka, -, -⟩ := HXR.out _ hP.bel (by intro e; rw [e] at hm; simp at hm)
        obtain ⟨pb, po, hpa, -, -, -, hrow⟩ := ps_cells (HGA.out _ hP.bel) hjl
        obtain ⟨rb, ro, hra, -, -⟩ := hrow (by intro e; rw [e] at hjr; simp only [List.length_nil] at hjr; omega)
        have KS0 : Hid (∀ w', Below w.heap.size w w' -> w'.heap[w.heap.size]? = some (gBox g) -> w'.heap[nb]? = some (spBox x) -> (fun w' : World => (w'.cell? ⟨nb, 3, none⟩ = some (.slice (some ⟨kb, ko, none⟩) n2 x.t.kc) /\ w'.cell? ⟨nb, 0, none⟩ = some (.int .i64 (jn : Int)) /\ w'.cell? ⟨w.heap.size, 3, none⟩ = some (.slice (some ⟨pb, po, none⟩) g.ps.length g.pc) /\ w'.cell? ⟨pb, po + jn * 3 + 1, none⟩ = some (.slice (some ⟨rb, ro, none⟩) n2 (g.ps.getD jn .none).rc) /\ w'.cell? ⟨rb, ro + q * 2, none⟩ = some (.int .i64 ((g.ps.getD jn .none).right.getD q (0, 0)).1) /\ w'.cell? ⟨rb, ro + q * 2 + 1, none⟩ = some (.int .i64 ((g.ps.getD jn .none).right.getD q (0, 0)).2)) /\ w'.cell? ⟨kb, ko + q * 4, none⟩ = some (.int .i64 y.prod) /\ w'.cell? ⟨kb, ko + q * 4 + 1, none⟩ = some (.int .i64 y.kind) /\ w'.cell? ⟨kb, ko + q * 4 + 2, none⟩ = some (.string y.tx) /\ w'.cell? ⟨kb, ko + q * 4 + 3, none⟩ = some (.slice y.ka y.kids.length y.kc)) w') := fun w' hb hG hB => by
         obtain ⟨kb', ko', hka', hbl', hc'⟩ := HXR.out _ hb (by intro e; rw [e] at hm; simp at hm)
         rw [hka] at hka'
         simp only [Option.some.injEq, Addr.mk.injEq, and_true] at hka'
         obtain ⟨rfl, rfl⟩ := hka'
         obtain ⟨pb', po', hpa', hbl2, d0, d1, hrow'⟩ := ps_cells (HGA.out _ hb) hjl
         rw [hpa] at hpa'
         simp only [Option.some.injEq, Addr.mk.injEq, and_true] at hpa'
         obtain ⟨rfl, rfl⟩ := hpa'
         obtain ⟨rb', ro', hra', hbl3, hcr⟩ := hrow' (by intro e; rw [e] at hjr; simp only [List.length_nil] at hjr; omega)
         rw [hra] at hra'
         simp only [Option.some.injEq, Addr.mk.injEq, and_true] at hra'
         obtain ⟨rfl, rfl⟩ := hra'
         obtain ⟨-, -, -, y3, -⟩ := gb_cells hG
         rw [hpa] at y3
         rw [hra, <- hjr, hn2] at d1
         have z3 := (cellq_any (i := 3) hB).trans rfl
         have z0 := (cellq_any (i := 0) hB).trans rfl
         rw [hka, hn2] at z3
         rw [hjn] at z0
         obtain ⟨r0, r1⟩ := hcr q (by omega)
         have hc2 := hc' q (by omega)
         rw [hy] at hc2
         exact ⟨⟨z3, z0, y3, d1, r0, r1⟩, hc2⟩
        have HT2 : Hid (S' ++ ((kidC g x).drop q).reverse = T ++ [⟨y, 0, (((g.ps.getD jn .none).right.getD q (0, 0)).1, ((g.ps.getD jn .none).right.getD q (0, 0)).2), true⟩]) := by
         show _ = _
         have e := ckK_drop (rightU g x.t) x.t.kids q (by omega)
         rw [hy, show rightU g x.t = (g.ps.getD jn .none).right by unfold rightU; rw [hjn]; rfl] at e
         rw [<- HTT.out]
         unfold kidC
         rw [show rightU g x.t = (g.ps.getD jn .none).right by unfold rightU; rw [hjn]; rfl, e]
         simp
        have HTL : Hid (T.length <= 1000000000) := by
         have h1 := HN.out
         have h2 := congrArg List.length HTT.out
         simp [kidC, ckK_len] at h2
         show _ <= _
         omega
        have HP : Hid (CWs g w T (.slice va T.length vc) wr) := hP
        have HB : Hid (wr.heap[nb]? = some (spBox x)) := hB
        have HNN : Hid (∀ j, (Value.slice va T.length vc).ownBlock = some j -> j ≠ nb) := hN
        have hs : Hid ((fun w' : World => (w'.cell? ⟨nb, 3, none⟩ = some (.slice (some ⟨kb, ko, none⟩) n2 x.t.kc) /\ w'.cell? ⟨nb, 0, none⟩ = some (.int .i64 (jn : Int)) /\ w'.cell? ⟨w.heap.size, 3, none⟩ = some (.slice (some ⟨pb, po, none⟩) g.ps.length g.pc) /\ w'.cell? ⟨pb, po + jn * 3 + 1, none⟩ = some (.slice (some ⟨rb, ro, none⟩) n2 (g.ps.getD jn .none).rc) /\ w'.cell? ⟨rb, ro + q * 2, none⟩ = some (.int .i64 ((g.ps.getD jn .none).right.getD q (0, 0)).1) /\ w'.cell? ⟨rb, ro + q * 2 + 1, none⟩ = some (.int .i64 ((g.ps.getD jn .none).right.getD q (0, 0)).2)) /\ w'.cell? ⟨kb, ko + q * 4, none⟩ = some (.int .i64 y.prod) /\ w'.cell? ⟨kb, ko + q * 4 + 1, none⟩ = some (.int .i64 y.kind) /\ w'.cell? ⟨kb, ko + q * 4 + 2, none⟩ = some (.string y.tx) /\ w'.cell? ⟨kb, ko + q * 4 + 3, none⟩ = some (.slice y.ka y.kids.length y.kc)) wr.drew) := KS0.out _ hP.bel.drew hP.box hB
        have hq2 : q < n2 := by omega
        have hq3 : (q : Int) < (n2 : Int) := by omega
        have jlt : (jn : Int) < (g.ps.length : Int) := by omega
        have HKL : Hid (q < x.t.kids.length) := by rw [hn2]; exact hq2
        have e6 : ((q + 1 : Nat) : Int) - 1 = (q : Int) := by omega
        rw [e6]
        rw [hn2] at hkl hm
        clear hP hB hN hka hpos hm hn2 hy e6 hjn hjr hpa hrow hra
        have HPY : Hid (spBox ⟨y, 0, (((g.ps.getD jn .none).right.getD q (0, 0)).1, ((g.ps.getD jn .none).right.getD q (0, 0)).2), true⟩ = .cells #[.int .i64 y.prod, .int .i64 y.kind, .string y.tx, .slice y.ka y.kids.length y.kc, .int .i64 0, .int .i64 ((g.ps.getD jn .none).right.getD q (0, 0)).1, .int .i64 ((g.ps.getD jn .none).right.getD q (0, 0)).2, .bool true] 76) := rfl
        have HN0 : Hid (∀ j u, (spCells ⟨y, 0, (((g.ps.getD jn .none).right.getD q (0, 0)).1, ((g.ps.getD jn .none).right.getD q (0, 0)).2), true⟩)[j]? = some u -> (wr.alloc (.cells #[.int .i64 y.prod, .int .i64 y.kind, .string y.tx, .slice y.ka y.kids.length y.kc, .int .i64 0, .int .i64 ((g.ps.getD jn .none).right.getD q (0, 0)).1, .int .i64 ((g.ps.getD jn .none).right.getD q (0, 0)).2, .bool true] 76)).drew.cell? ⟨wr.heap.size, j, none⟩ = some u) := fun j u hu => sp_new wr ⟨y, 0, (((g.ps.getD jn .none).right.getD q (0, 0)).1, ((g.ps.getD jn .none).right.getD q (0, 0)).2), true⟩ j u hu
        clear HPY
        generalize ((g.ps.getD jn .none).right.getD q (0, 0)).1 = s1 at *
        generalize ((g.ps.getD jn .none).right.getD q (0, 0)).2 = s2 at *
        generalize (g.ps.getD jn .none).rc = rc2 at *
        generalize y.prod = p at *
        generalize y.kind = kd at *
        generalize y.tx = tx at *
        generalize y.ka = ka at *
        generalize y.kids.length = kn at *
        generalize y.kc = kkc at *
        generalize x.t.kc = kc2 at *
        go_wp2
        refine wp_region_x (S := fun _ => (fun w' : World => (w'.cell? ⟨nb, 3, none⟩ = some (.slice (some ⟨kb, ko, none⟩) n2 kc2) /\ w'.cell? ⟨nb, 0, none⟩ = some (.int .i64 (jn : Int)) /\ w'.cell? ⟨w.heap.size, 3, none⟩ = some (.slice (some ⟨pb, po, none⟩) g.ps.length g.pc) /\ w'.cell? ⟨pb, po + jn * 3 + 1, none⟩ = some (.slice (some ⟨rb, ro, none⟩) n2 rc2) /\ w'.cell? ⟨rb, ro + q * 2, none⟩ = some (.int .i64 s1) /\ w'.cell? ⟨rb, ro + q * 2 + 1, none⟩ = some (.int .i64 s2)) /\ w'.cell? ⟨kb, ko + q * 4, none⟩ = some (.int .i64 p) /\ w'.cell? ⟨kb, ko + q * 4 + 1, none⟩ = some (.int .i64 kd) /\ w'.cell? ⟨kb, ko + q * 4 + 2, none⟩ = some (.string tx) /\ w'.cell? ⟨kb, ko + q * 4 + 3, none⟩ = some (.slice ka kn kkc))) (by kernel_rfl) ?_
        refine takeF (i := 0) (v := ?_) rfl (by kernel_rfl) (by decide +kernel) (by decide +kernel) (fun _ _ _ h => h) (Or.inl ⟨by rfl, ?_⟩) hs.out ?_
        rotate_left
        ·(intro w hSw; (try dsimp only at hSw); go_simp; try (with_reducible rfl))
        (try simp only [Act.put, List.setIfInBounds_toArray, List.set_cons_zero, List.set_cons_succ])
        refine takeF (i := 1) (v := ?_) rfl (by kernel_rfl) (by decide +kernel) (by decide +kernel) (fun _ _ _ h => h) (Or.inl ⟨by rfl, ?_⟩) hs.out ?_
        rotate_left
        ·(intro w hSw; (try dsimp only at hSw); go_simp; try (with_reducible rfl))
        (try simp only [Act.put, List.setIfInBounds_toArray, List.set_cons_zero, List.set_cons_succ])
        refine takeF (i := 2) (v := ?_) rfl (by kernel_rfl) (by decide +kernel) (by decide +kernel) (fun _ _ _ h => h) (Or.inl ⟨by rfl, ?_⟩) hs.out ?_
        rotate_left
        ·(intro w hSw; (try dsimp only at hSw); go_simp; try (with_reducible rfl))
        (try simp only [Act.put, List.setIfInBounds_toArray, List.set_cons_zero, List.set_cons_succ])
        refine takeF (i := 3) (v := ?_) rfl (by kernel_rfl) (by decide +kernel) (by decide +kernel) (fun _ _ _ h => h) (Or.inl ⟨by rfl, ?_⟩) hs.out ?_
        rotate_left
        ·(intro w hSw; (try dsimp only at hSw); go_simp; try (with_reducible rfl))
        (try simp only [Act.put, List.setIfInBounds_toArray, List.set_cons_zero, List.set_cons_succ])
        refine takeF (i := 4) (v := ?_) rfl (by kernel_rfl) (by decide +kernel) (by decide +kernel) (fun _ _ _ h => h) (Or.inl ⟨by rfl, ?_⟩) hs.out ?_
        rotate_left
        ·(intro w hSw; (try dsimp only at hSw); go_simp; try (with_reducible rfl))
        (try simp only [Act.put, List.setIfInBounds_toArray, List.set_cons_zero, List.set_cons_succ])
        refine takeF (i := 5) (v := ?_) rfl (by kernel_rfl) (by decide +kernel) (by decide +kernel) (fun _ _ _ h => h) (Or.inl ⟨by rfl, ?_⟩) hs.out ?_
        rotate_left
        ·(intro w hSw; (try dsimp only at hSw); go_simp; try (with_reducible rfl))
        (try simp only [Act.put, List.setIfInBounds_toArray, List.set_cons_zero, List.set_cons_succ])
        refine takeF (i := 6) (v := ?_) rfl (by kernel_rfl) (by decide +kernel) (by decide +kernel) (fun _ _ _ h => h) (Or.inl ⟨by rfl, ?_⟩) hs.out ?_
        rotate_left
        ·(intro w hSw; (try dsimp only at hSw); go_simp; try (with_reducible rfl))
        (try simp only [Act.put, List.setIfInBounds_toArray, List.set_cons_zero, List.set_cons_succ])
        refine takeF (i := 7) (v := ?_) rfl (by kernel_rfl) (by decide +kernel) (by decide +kernel) (fun _ _ _ h => h) (Or.inl ⟨by rfl, ?_⟩) hs.out ?_
        rotate_left
        ·(intro w hSw; (try dsimp only at hSw); go_simp; try (with_reducible rfl))
        (try simp only [Act.put, List.setIfInBounds_toArray, List.set_cons_zero, List.set_cons_succ])
        refine takeF (i := 8) (v := ?_) rfl (by kernel_rfl) (by decide +kernel) (by decide +kernel) (fun _ _ _ h => h) (Or.inl ⟨by rfl, ?_⟩) hs.out ?_
        rotate_left
        ·(intro w hSw; (try dsimp only at hSw); go_simp; try (with_reducible rfl))
        (try simp only [Act.put, List.setIfInBounds_toArray, List.set_cons_zero, List.set_cons_succ])
        refine takeF (i := 9) (v := ?_) rfl (by kernel_rfl) (by decide +kernel) (by decide +kernel) (fun _ _ _ h => h) (Or.inl ⟨by rfl, ?_⟩) hs.out ?_
        rotate_left
        ·(intro w hSw; (try dsimp only at hSw); go_simp; try (with_reducible rfl))
        (try simp only [Act.put, List.setIfInBounds_toArray, List.set_cons_zero, List.set_cons_succ])
        refine takeF (i := 10) (v := ?_) rfl (by kernel_rfl) (by decide +kernel) (by decide +kernel) (fun _ _ _ h => h) (Or.inl ⟨by rfl, ?_⟩) hs.out ?_
        rotate_left
        ·(intro w hSw; (try dsimp only at hSw); go_simp; try (with_reducible rfl))
        (try simp only [Act.put, List.setIfInBounds_toArray, List.set_cons_zero, List.set_cons_succ])
        refine takeF (i := 11) (v := ?_) rfl (by kernel_rfl) (by decide +kernel) (by decide +kernel) (fun _ _ _ h => h) (Or.inl ⟨by rfl, ?_⟩) hs.out ?_
        rotate_left
        ·(intro w hSw; (try dsimp only at hSw); go_simp; try (with_reducible rfl))
        (try simp only [Act.put, List.setIfInBounds_toArray, List.set_cons_zero, List.set_cons_succ])
        refine takeF (i := 12) (v := ?_) rfl (by kernel_rfl) (by decide +kernel) (by decide +kernel) (fun _ _ _ h => h) (Or.inl ⟨by rfl, ?_⟩) hs.out ?_
        rotate_left
        ·(intro w hSw; (try dsimp only at hSw); go_simp; try (with_reducible rfl))
        (try simp only [Act.put, List.setIfInBounds_toArray, List.set_cons_zero, List.set_cons_succ])
        refine takeF (i := 13) (v := ?_) rfl (by kernel_rfl) (by decide +kernel) (by decide +kernel) (fun _ _ _ h => h) (Or.inl ⟨by rfl, ?_⟩) hs.out ?_
        rotate_left
        ·(intro w hSw; (try dsimp only at hSw); go_simp; try (with_reducible rfl))
        (try simp only [Act.put, List.setIfInBounds_toArray, List.set_cons_zero, List.set_cons_succ])
        refine takeF (i := 14) (v := ?_) rfl (by kernel_rfl) (by decide +kernel) (by decide +kernel) (fun _ _ _ h => h) (Or.inl ⟨by rfl, ?_⟩) hs.out ?_
        rotate_left
        ·(intro w hSw; (try dsimp only at hSw); go_simp; try (with_reducible rfl))
        (try simp only [Act.put, List.setIfInBounds_toArray, List.set_cons_zero, List.set_cons_succ])
        refine takeF (i := 15) (v := ?_) rfl (by kernel_rfl) (by decide +kernel) (by decide +kernel) (fun _ _ _ h => h) (Or.inl ⟨by rfl, ?_⟩) hs.out ?_
        rotate_left
        ·(intro w hSw; (try dsimp only at hSw); go_simp; try (with_reducible rfl))
        (try simp only [Act.put, List.setIfInBounds_toArray, List.set_cons_zero, List.set_cons_succ])
        refine takeF (i := 16) (v := ?_) rfl (by kernel_rfl) (by decide +kernel) (by decide +kernel) (fun _ _ _ h => h) (Or.inl ⟨by rfl, ?_⟩) hs.out ?_
        rotate_left
        ·(intro w hSw; (try dsimp only at hSw); go_simp; try (with_reducible rfl))
        (try simp only [Act.put, List.setIfInBounds_toArray, List.set_cons_zero, List.set_cons_succ])
        refine takeF (i := 17) (v := ?_) rfl (by kernel_rfl) (by decide +kernel) (by decide +kernel) (fun _ _ _ h => h) (Or.inl ⟨by rfl, ?_⟩) hs.out ?_
        rotate_left
        ·(intro w hSw; (try dsimp only at hSw); go_simp; try (with_reducible rfl))
        (try simp only [Act.put, List.setIfInBounds_toArray, List.set_cons_zero, List.set_cons_succ])
        refine takeF (i := 18) (v := ?_) rfl (by kernel_rfl) (by decide +kernel) (by decide +kernel) (fun _ _ _ h => h) (Or.inl ⟨by rfl, ?_⟩) hs.out ?_
        rotate_left
        ·(intro w hSw; (try dsimp only at hSw); go_simp; try (with_reducible rfl))
        (try simp only [Act.put, List.setIfInBounds_toArray, List.set_cons_zero, List.set_cons_succ])
        refine wpAnyX_one (j := 19) (by decide +kernel) rfl (fun K' hK => ?_)
        go_simp
        refine hK.out _ _ (KS0.out _ (HP.out.bel.trans (((below_alloc _ _).drew).mono HP.out.bel.size)) (tbox_on HP.out.box (below_alloc _ _).drew) (tbox_on HB.out (below_alloc _ _).drew)) ?_
        clear hK K'
        (try simp only [Act.put, List.setIfInBounds_toArray, List.set_cons_zero, List.set_cons_succ])
        refine wpAnyX_one (j := 20) (by decide +kernel) rfl (fun K' hK => ?_)
        refine step_ro_append rkSpot (by rfl) _ _ (by rfl) (.slice va T.length vc) T (by rfl) (HP.out.s.later (below_alloc _ _).drew) wr.heap.size 1 ⟨y, 0, (s1, s2), true⟩ (by rfl) HN0.out HTL.out ?_
        intro a5 n5 c5 w5 ho5 hg5
        have hbx : Below wr.heap.size wr (wr.alloc (.cells #[.int .i64 p, .int .i64 kd, .string tx, .slice ka kn kkc, .int .i64 0, .int .i64 s1, .int .i64 s2, .bool true] 76)).drew := (below_alloc _ _).drew
        have W5 : Hid (CWs g w (T ++ [⟨y, 0, (s1, s2), true⟩]) (.slice a5 n5 c5) w5) := HP.out.push hbx hg5 ho5
        have B5 : Hid (w5.heap[nb]? = some (spBox x)) := (hg5.grown.block nb (Nat.lt_of_lt_of_le (lt_of_block HB.out) hbx.size) (fun e => HNN.out nb e.symm rfl)).trans (tbox_on HB.out hbx)
        have N5 : Hid (∀ j, (Value.slice a5 n5 c5).ownBlock = some j -> j ≠ nb) := fun j hj => by
         have hz := lt_of_block HB.out
         have hz2 := hbx.size
         rcases hg5.moved with e | ⟨k, e, hk⟩
         ·exact HNN.out j (by rw [<- e]; exact hj)
         ·rw [e] at hj
          simp only [Option.some.injEq] at hj
          omega
        refine hK.out _ _ (KS0.out _ W5.out.bel W5.out.box B5.out) ?_
        clear hK K' ho5 hg5 hbx
        (try simp only [Act.put, List.setIfInBounds_toArray, List.set_cons_zero, List.set_cons_succ])
        refine wpAnyX_one (j := 21) (by decide +kernel) rfl (fun K' hK => ?_)
        go_simp
        refine hK.out _ _ (KS0.out _ W5.out.bel W5.out.box B5.out) ?_
        clear hK K'
        (try simp only [Act.put, List.setIfInBounds_toArray, List.set_cons_zero, List.set_cons_succ])
        refine wpAnyX_done (by decide +kernel) ?_
        clear hs KS0
        go_wp2
        go_roundw
        case rel => exact ⟨q, Nat.le_of_lt HKL.out, by go_num, by rw [HT2.out]; exact W5.out, B5.out, N5.out⟩
        case measure => simp [intOf]
     ·have hq : decide (¬ ((rootU g x.t).1 = x.s.1 /\ (rootU g x.t).2 = x.s.2)) = true := decide_eq_true (fun q => hrs (Prod.ext q.1 q.2))
      have EU : Hid (erU g x = if x.s.1 = 1 ∨ x.t.prod = -1 then 82 else 81) := by
       show _ = _
       unfold erU
       rw [if_neg (by rw [HE.out]; simp), if_pos ⟨hu, hrs⟩]
      clear hrs
      have KS : Hid (∀ w', w'.heap[w.heap.size]? = some (gBox g) -> w'.heap[nb]? = some (spBox x) -> (fun w' : World => (w'.cell? ⟨w.heap.size, 0, none⟩ = some (.slice g.ta g.ts.length g.tc) /\ w'.cell? ⟨w.heap.size, 1, none⟩ = some (.slice g.na g.ns.length g.nc) /\ w'.cell? ⟨w.heap.size, 2, none⟩ = some (.int .i64 g.start) /\ w'.cell? ⟨w.heap.size, 3, none⟩ = some (.slice g.pa g.ps.length g.pc) /\ w'.cell? ⟨w.heap.size, 4, none⟩ = some (.slice g.la g.ls.length g.lc)) /\ w'.cell? ⟨nb, 0, none⟩ = some (.int .i64 x.t.prod) /\ w'.cell? ⟨nb, 1, none⟩ = some (.int .i64 x.t.kind) /\ w'.cell? ⟨nb, 2, none⟩ = some (.string x.t.tx) /\ w'.cell? ⟨nb, 3, none⟩ = some (.slice x.t.ka x.t.kids.length x.t.kc) /\ w'.cell? ⟨nb, 5, none⟩ = some (.int .i64 x.s.1) /\ w'.cell? ⟨nb, 6, none⟩ = some (.int .i64 x.s.2) /\ w'.cell? ⟨nb, 7, none⟩ = some (.bool true)) w') := fun w' h1 h2 => by
       have z7 := (cellq_any (i := 7) h2).trans rfl
       rw [hu] at z7
       exact ⟨gb_cells h1, (cellq_any (i := 0) h2).trans rfl, (cellq_any (i := 1) h2).trans rfl, (cellq_any (i := 2) h2).trans rfl, (cellq_any (i := 3) h2).trans rfl, (cellq_any (i := 5) h2).trans rfl, (cellq_any (i := 6) h2).trans rfl, z7⟩
      have hs : Hid ((fun w' : World => (w'.cell? ⟨w.heap.size, 0, none⟩ = some (.slice g.ta g.ts.length g.tc) /\ w'.cell? ⟨w.heap.size, 1, none⟩ = some (.slice g.na g.ns.length g.nc) /\ w'.cell? ⟨w.heap.size, 2, none⟩ = some (.int .i64 g.start) /\ w'.cell? ⟨w.heap.size, 3, none⟩ = some (.slice g.pa g.ps.length g.pc) /\ w'.cell? ⟨w.heap.size, 4, none⟩ = some (.slice g.la g.ls.length g.lc)) /\ w'.cell? ⟨nb, 0, none⟩ = some (.int .i64 x.t.prod) /\ w'.cell? ⟨nb, 1, none⟩ = some (.int .i64 x.t.kind) /\ w'.cell? ⟨nb, 2, none⟩ = some (.string x.t.tx) /\ w'.cell? ⟨nb, 3, none⟩ = some (.slice x.t.ka x.t.kids.length x.t.kc) /\ w'.cell? ⟨nb, 5, none⟩ = some (.int .i64 x.s.1) /\ w'.cell? ⟨nb, 6, none⟩ = some (.int .i64 x.s.2) /\ w'.cell? ⟨nb, 7, none⟩ = some (.bool true)) w2.drew) := KS.out _ W2.out.1.box W2.out.2
      clear hu
      have RCX := RC.out x.t w2.drew W2.out.1.bel.drew
      have HRC : Hid (Calls Tryz.prog 21 #[g.val, x.t.val] w2.drew fun e w'' => e = .returned (.agg #[.int .i64 (rootU g x.t).1, .int .i64 (rootU g x.t).2]) /\ Below w2.drew.heap.size w2.drew w'') := RCX
      clear RCX
      refine wp_region_x (S := fun _ => (fun w' : World => (w'.cell? ⟨w.heap.size, 0, none⟩ = some (.slice g.ta g.ts.length g.tc) /\ w'.cell? ⟨w.heap.size, 1, none⟩ = some (.slice g.na g.ns.length g.nc) /\ w'.cell? ⟨w.heap.size, 2, none⟩ = some (.int .i64 g.start) /\ w'.cell? ⟨w.heap.size, 3, none⟩ = some (.slice g.pa g.ps.length g.pc) /\ w'.cell? ⟨w.heap.size, 4, none⟩ = some (.slice g.la g.ls.length g.lc)) /\ w'.cell? ⟨nb, 0, none⟩ = some (.int .i64 x.t.prod) /\ w'.cell? ⟨nb, 1, none⟩ = some (.int .i64 x.t.kind) /\ w'.cell? ⟨nb, 2, none⟩ = some (.string x.t.tx) /\ w'.cell? ⟨nb, 3, none⟩ = some (.slice x.t.ka x.t.kids.length x.t.kc) /\ w'.cell? ⟨nb, 5, none⟩ = some (.int .i64 x.s.1) /\ w'.cell? ⟨nb, 6, none⟩ = some (.int .i64 x.s.2) /\ w'.cell? ⟨nb, 7, none⟩ = some (.bool true))) (by kernel_rfl) ?_
      refine takeF (i := 0) (v := ?_) rfl (by kernel_rfl) (by decide +kernel) (by decide +kernel) (fun _ _ _ h => h) (Or.inl ⟨by rfl, ?_⟩) hs.out ?_
      rotate_left
      ·(intro w hSw; (try dsimp only at hSw); go_simp; try (with_reducible rfl))
      (try simp only [Act.put, List.setIfInBounds_toArray, List.set_cons_zero, List.set_cons_succ])
      refine takeF (i := 1) (v := ?_) rfl (by kernel_rfl) (by decide +kernel) (by decide +kernel) (fun _ _ _ h => h) (Or.inl ⟨by rfl, ?_⟩) hs.out ?_
      rotate_left
      ·(intro w hSw; (try dsimp only at hSw); go_simp; try (with_reducible rfl))
      (try simp only [Act.put, List.setIfInBounds_toArray, List.set_cons_zero, List.set_cons_succ])
      refine takeF (i := 2) (v := ?_) rfl (by kernel_rfl) (by decide +kernel) (by decide +kernel) (fun _ _ _ h => h) (Or.inl ⟨by rfl, ?_⟩) hs.out ?_
      rotate_left
      ·(intro w hSw; (try dsimp only at hSw); go_simp; try (with_reducible rfl))
      (try simp only [Act.put, List.setIfInBounds_toArray, List.set_cons_zero, List.set_cons_succ])
      refine takeF (i := 3) (v := ?_) rfl (by kernel_rfl) (by decide +kernel) (by decide +kernel) (fun _ _ _ h => h) (Or.inl ⟨by rfl, ?_⟩) hs.out ?_
      rotate_left
      ·(intro w hSw; (try dsimp only at hSw); go_simp; try (with_reducible rfl))
      (try simp only [Act.put, List.setIfInBounds_toArray, List.set_cons_zero, List.set_cons_succ])
      refine takeF (i := 4) (v := ?_) rfl (by kernel_rfl) (by decide +kernel) (by decide +kernel) (fun _ _ _ h => h) (Or.inl ⟨by rfl, ?_⟩) hs.out ?_
      rotate_left
      ·(intro w hSw; (try dsimp only at hSw); go_simp; try (with_reducible rfl))
      (try simp only [Act.put, List.setIfInBounds_toArray, List.set_cons_zero, List.set_cons_succ])
      refine takeF (i := 5) (v := ?_) rfl (by kernel_rfl) (by decide +kernel) (by decide +kernel) (fun _ _ _ h => h) (Or.inl ⟨by rfl, ?_⟩) hs.out ?_
      rotate_left
      ·(intro w hSw; (try dsimp only at hSw); go_simp; try (with_reducible rfl))
      (try simp only [Act.put, List.setIfInBounds_toArray, List.set_cons_zero, List.set_cons_succ])
      refine takeF (i := 7) (v := ?_) rfl (by kernel_rfl) (by decide +kernel) (by decide +kernel) (fun _ _ _ h => h) (Or.inl ⟨by rfl, ?_⟩) hs.out ?_
      rotate_left
      ·(intro w hSw; (try dsimp only at hSw); go_simp; try (with_reducible rfl))
      (try simp only [Act.put, List.setIfInBounds_toArray, List.set_cons_zero, List.set_cons_succ])
      refine takeF (i := 8) (v := ?_) rfl (by kernel_rfl) (by decide +kernel) (by decide +kernel) (fun _ _ _ h => h) (Or.inl ⟨by rfl, ?_⟩) hs.out ?_
      rotate_left
      ·(intro w hSw; (try dsimp only at hSw); go_simp; try (with_reducible rfl))
      (try simp only [Act.put, List.setIfInBounds_toArray, List.set_cons_zero, List.set_cons_succ])
      refine wpAnyX_one (j := 6) (by decide +kernel) rfl (fun K' hK => ?_)
      refine step_callXT (by rfl) 21 #[g.val, x.t.val] _ (run_root (v0 := g.val) (v1 := x.t.val) rfl (by rfl) (by rfl) _) HRC.out ?_
      rintro e w5 ⟨rfl, b5⟩
      have W5 : Hid (CWs g w S' (.slice (some ⟨b, 0, none⟩) n c) w5 /\ w5.heap[nb]? = some (spBox x)) := ⟨(W2.out.1.any (Below.refl _ _).drew).any b5, tbox_on (w := w2.drew) W2.out.2 b5⟩
      clear b5
      refine ⟨_, rfl, hK.out _ _ (KS.out _ W5.out.1.box W5.out.2) ?_⟩
      clear hK K'
      (try simp only [Act.put, List.setIfInBounds_toArray, List.set_cons_zero, List.set_cons_succ])
      refine takeF (i := 9) (v := ?_) rfl (by kernel_rfl) (by decide +kernel) (by decide +kernel) (fun _ _ _ h => h) (Or.inl ⟨by rfl, ?_⟩) (KS.out _ W5.out.1.box W5.out.2) ?_
      rotate_left
      ·(intro w hSw; (try dsimp only at hSw); go_simp; exact sym_if _ _ _ _ w)
      (try simp only [Act.put, List.setIfInBounds_toArray, List.set_cons_zero, List.set_cons_succ])
      generalize decide (¬ ((rootU g x.t).1 = x.s.1 /\ (rootU g x.t).2 = x.s.2)) = bv at hq ⊢
      subst hq
      refine takeF (i := 10) (v := ?_) rfl (by kernel_rfl) (by decide +kernel) (by decide +kernel) (fun _ _ _ h => h) (Or.inl ⟨by rfl, ?_⟩) (KS.out _ W5.out.1.box W5.out.2) ?_
      rotate_left
      ·(intro w hSw; (try dsimp only at hSw); go_simp; try (with_reducible rfl))
      (try simp only [Act.put, List.setIfInBounds_toArray, List.set_cons_zero, List.set_cons_succ])
      refine wpAnyX_done (by decide +kernel) ?_
      clear hs KS W2 HRC
      have k5 := (cellq_any (i := 5) W5.out.2).trans rfl
      have k0 := (cellq_any (i := 0) W5.out.2).trans rfl
      by_cases h1 : x.s.1 = 1
      ·have R : Hid (runU g L 0 = (82, pl)) := by
        show _ = _
        have ee : erU g x = 82 := by rw [EU.out, if_pos (.inl h1)]
        rw [<- HL.out, runU, ee]
        exact if_pos (by decide)
       have q1 : (x.s.1 == 1) = true := by simpa using h1
       have q2 : decide (x.s.1 = 1) = true := decide_eq_true h1
       clear h1
       go_wp2
       refine bodyPost_ret (results_tmp2 rfl _ _ _) rfl ?_
       rw [R.out]
       exact ⟨rfl, W5.out.1.bel⟩
      by_cases h2 : x.t.prod = -1
      ·have R : Hid (runU g L 0 = (82, pl)) := by
        show _ = _
        have ee : erU g x = 82 := by rw [EU.out, if_pos (.inr h2)]
        rw [<- HL.out, runU, ee]
        exact if_pos (by decide)
       have q1 : (x.s.1 == 1) = false := by simpa using h1
       have q2 : (x.t.prod == -1) = true := by simpa using h2
       clear h1 h2
       go_wp2
       refine bodyPost_ret (results_tmp2 rfl _ _ _) rfl ?_
       rw [R.out]
       exact ⟨rfl, W5.out.1.bel⟩
      ·have R : Hid (runU g L 0 = (81, pl)) := by
        show _ = _
        have ee : erU g x = 81 := by rw [EU.out, if_neg (by rintro (q | q); exact h1 q; exact h2 q)]
        rw [<- HL.out, runU, ee]
        exact if_pos (by decide)
       have q1 : (x.s.1 == 1) = false := by simpa using h1
       have q2 : (x.t.prod == -1) = false := by simpa using h2
       clear h1 h2
       go_wp2
       refine bodyPost_ret (results_tmp2 rfl _ _ _) rfl ?_
       rw [R.out]
       exact ⟨rfl, W5.out.1.bel⟩
   ·have R : Hid (runU g L 0 = (alTU g x.t, pl)) := by
     show _ = _
     have e : erU g x = alTU g x.t := by unfold erU; rw [if_pos he]
     rw [<- HL.out, runU, e, if_pos he]
    obtain ⟨e, hee⟩ : ∃ e, alTU g x.t = e := ⟨_, rfl⟩
    rw [hee] at he R
    have HE : Hid (alTU g x.t = e) := hee
    have e0 : (e != 0) = true := by simpa using he
    clear he hee
    go_wp2_with (go_at_call 20; refine (AC.out x.t _ HPA.out.bel (by omega)).mono ?_; rintro _ w2 ⟨rfl, b2⟩; rw [HE.out]; have W2 : Hid (CWs g w S' (.slice (some ⟨b, 0, none⟩) n c) w2 /\ w2.heap[wr.heap.size]? = some (spBox x)) := ⟨HPA.out.any b2, tbox_on X0.out b2⟩; clear b2 x0 x1 x2 x3 x4 c0 c1 c2 c3 c4 c5 c6 c7 hs1)
    refine bodyPost_ret (results_tmp2 rfl _ _ _) rfl ?_
    rw [R.out]
    exact ⟨rfl, W2.out.1.bel⟩
end Go.Proofs.YtndbdliaidbocaaGreat
