import Derived.Test.YtcihjkmaadkfcaaPTDgToTDw
namespace Go.Proofs.Ytcihjkmaadkfcaa
set_option linter.unusedVariables false
open Go.RowKit
structure GrK (t s : TV) (π : List Nat) (U V A2 B2 : TV) : Prop where
 ok : okP π t
 u : samV (getAt π t) U
 v : samV (setAt π t s) V
 a : samV (setAt π t U) A2
 b : samV (getAt π V) B2
 st : szT t <= 1048576
 ss : szT s <= 1048576
theorem set_size {π : List Nat} {t : TV} (hok : okP π t) (s : TV) : szT (setAt π t s) + szT (getAt π t) = szT t + szT s := by
 obtain ⟨A, B, _, h2, h3⟩ := pre_set π t hok
 have e2 := congrArg List.length h2
 have e3 := congrArg List.length (h3 s)
 simp only [List.length_map, List.length_append, preT_len] at e2 e3
 omega
theorem GrK.sizes {t s : TV} {π : List Nat} {U V A2 B2 : TV} (h : GrK t s π U V A2 B2) : szT V + szT U = szT t + szT s /\ szT U <= szT t /\ szT V <= 100000000 /\ szT A2 <= 100000000 /\ szT B2 <= 100000000 := by
 have h1 := set_size h.ok s
 have h2 := set_size h.ok U
 have h3 := sub_size h.ok
 have e1 := samV_size _ _ h.u
 have e2 := samV_size _ _ h.v
 have e3 := samV_size _ _ h.a
 have okV := (sam_path π _ _ h.v (ok_set π t s h.ok)).1
 have e4 := samV_size _ _ h.b
 have h4 := sub_size okV
 have := h.st
 have := h.ss
 exact ⟨by omega, by omega, by omega, by omega, by omega⟩
theorem GrK.same {t s : TV} {π : List Nat} {U V A2 B2 : TV} (h : GrK t s π U V A2 B2) : samV A2 t /\ samV B2 s := by
 refine ⟨samV_symm _ _ (samV_trans _ _ _ (samV_set π t U h.ok h.u) h.a), samV_symm _ _ (samV_trans _ _ _ ?_ h.b)⟩
 have := (sam_path π _ _ h.v (ok_set π t s h.ok)).2.2.1
 rwa [get_set π t s h.ok] at this
theorem tb_tbx {w : World} {b : Nat} {t : TV} (h : w.heap[b]? = some (tBox t)) : TBx w b 0 t := by
 obtain ⟨h0, h1, h2, h3⟩ := tb_cells h
 exact ⟨lt_of_block h, h0, h1, h2, h3⟩
theorem run_yield1 {o : Oper} {a : Act} {t0 : TypeId} {v0 : Value} {x0 : Operand} (hop : o.op = Op.call { callee := Callee.value (Operand.func 10), args := #[x0], argTypes := #[t0] }) (h0 : a.eval x0 = v0) (w : World) : (execOp a.eval o).run Try.prog w = .ok (.enter 10 #[v0]) w := by
 have hf : a.eval (Operand.func 10) = .func (.func 10) #[] #[] := rfl
 simp [execOp, hop, resolve, invoke, h0, hf, Deferred.ofValue]
theorem run_sameTok2 {o : Oper} {a : Act} {t0 t1 : TypeId} {v0 v1 : Value} {x0 x1 : Operand} (hop : o.op = Op.call { callee := Callee.value (Operand.func 11), args := #[x0, x1], argTypes := #[t0, t1] }) (h0 : a.eval x0 = v0) (h1 : a.eval x1 = v1) (w : World) : (execOp a.eval o).run Try.prog w = .ok (.enter 11 #[v0, v1]) w := by
 have hf : a.eval (Operand.func 11) = .func (.func 11) #[] #[] := rfl
 simp [execOp, hop, resolve, invoke, h0, h1, hf, Deferred.ofValue]
theorem step_callXH {ops : Array Oper} {Q : Exit -> Act -> World -> Prop} {o : Oper} {a : Act} {w : World} {K : Act -> World -> Prop} {E : Prop} (hw : Region.wanted o (yielded ops a.tmps) = true) (f : FuncId) (args : Array Value) (R : Ending -> World -> Prop)
  (hrun : (execOp a.eval o).run Try.prog w = .ok (.enter f args) w) (hC : Calls Try.prog f args w R) (hK : ∀ e w', R e w' -> ∃ v, e = .returned v /\ K (a.put o.dst v) w') :
  if Region.wanted o (yielded ops a.tmps) = true then Oper.wp Try.prog o a w K Q else E := by
 rw [if_pos hw]
 show o.upon Try.prog a K Q ((execOp a.eval o).run Try.prog w)
 rw [hrun, Oper.upon_enter]
 refine hC.mono fun e w' hR => ?_
 obtain ⟨v, rfl, hk⟩ := hK e w' hR
 exact hk
structure GrL (t s U V : TV) (G : List SG) (m : Nat) (LA LU LS LB : List (Int × ByteArray)) : Prop where
 g : lfS (G.take m) = LA
 t : lfS ((preT t).map sgV) = LA ++ LU ++ LB
 u : lfS ((preT U).map sgV) = LU
 s : lfS ((preT s).map sgV) = LS
 v : lfS ((preT V).map sgV) = LA ++ LS ++ LB
theorem GrK.lists {t s : TV} {π : List Nat} {U V A2 B2 : TV} (h : GrK t s π U V A2 B2) : ∃ LA LU LS LB, GrL t s U V ((preT t).map sgV) (nuP π t) LA LU LS LB := by
 obtain ⟨A, B, h1, h2, h3⟩ := pre_set π t h.ok
 have e1 := sam_pre _ _ h.u
 have e2 := sam_pre _ _ h.v
 refine ⟨lfS A, lfS ((preT U).map sgV), lfS ((preT s).map sgV), lfS B, ?_, ?_, rfl, rfl, ?_⟩
 ·rw [h2, List.append_assoc, <- h1, List.take_left]
 ·rw [h2, lfS_app, lfS_app, e1]
 ·rw [<- e2, h3, lfS_app, lfS_app]
theorem GrL.len {t s U V : TV} {G : List SG} {m : Nat} {LA LU LS LB : List (Int × ByteArray)} (h : GrL t s U V G m LA LU LS LB) : LA.length + LU.length + LB.length <= szT t /\ LS.length <= szT s := by
 have h1 := lfS_len ((preT t).map sgV)
 have h2 := lfS_len ((preT s).map sgV)
 rw [h.t, List.length_map, preT_len] at h1
 rw [h.s, List.length_map, preT_len] at h2
 simp only [List.length_append] at h1
 exact ⟨by omega, h2⟩
structure TkL (w : World) (a : Option Addr) (c : Nat) (L : List (Int × ByteArray)) : Prop where
 row : TkRow w a L
 shp : ShT a c
 cap : L.length <= c
theorem TkL.later {w w' : World} {a : Option Addr} {c : Nat} {L : List (Int × ByteArray)} (h : TkL w a c L) (hb : Below w.heap.size w w') : TkL w' a c L := ⟨h.row.later hb, h.shp, h.cap⟩
theorem yield_L (X : TV) (L : List (Int × ByteArray)) (hL : lfS ((preT X).map sgV) = L) (w : World) (hX : TAt w X) (hz : szT X <= 100000000) : Calls Try.prog 10 #[X.val] w fun e w' => ∃ a c, e = .returned (.slice a L.length c) /\ TkL w' a c L /\ Below w.heap.size w w' := by
 refine (yield_W X w hX hz).mono fun e w' ⟨vo, e1, e2, _, e4⟩ => ?_
 obtain ⟨a, c, rfl, _⟩ := RO.len e2
 obtain ⟨r1, r2⟩ := TKt.row e2
 obtain ⟨s1, s2⟩ := TKt.shp e2
 rw [leaf_sg, hL] at r2
 have hl : (leafT (preT X)).length = L.length := by rw [<- hL, <- leaf_sg, List.length_map]
 rw [hl] at e1 s2
 exact ⟨a, c, e1, ⟨r2, s1, s2⟩, e4⟩
theorem tok_cut {w : World} {va : Option Addr} {vk : Nat} {X Y Z : List (Int × ByteArray)} (h : TkL w va vk (X ++ Y ++ Z)) {x y z : Nat} (hx : X.length = x) (hy : Y.length = y) (hz : Z.length = z) :
  (∃ a k, (∀ w', (Instr.slice 35 (.slice va (x + (y + z)) vk) none (some (.int .i64 (x : Int))) none).run Try.prog w' = .ok (.slice a x k) w') /\ TkRow w a X) /\
  (∃ a k, (∀ w', (Instr.slice 35 (.slice va (x + (y + z)) vk) (some (.int .i64 (x : Int))) (some (.int .i64 ((x : Int) + (y : Int)))) none).run Try.prog w' = .ok (.slice a y k) w') /\ TkRow w a Y) /\
  (∃ a k, (∀ w', (Instr.slice 35 (.slice va (x + (y + z)) vk) (some (.int .i64 ((x : Int) + (y : Int)))) none none).run Try.prog w' = .ok (.slice a z k) w') /\ TkRow w a Z) := by
 subst hx hy hz
 have hl : (X ++ Y ++ Z).length = X.length + (Y.length + Z.length) := by simp
 have hc := h.cap
 rw [hl] at hc
 refine ⟨?_, ?_, ?_⟩
 ·obtain ⟨a, k, e1, e2⟩ := sliced_tk (lo := 0) (hi := X.length) (L := X ++ Y ++ Z) (Nat.zero_le _) (by omega) h.cap h.shp
  refine ⟨a, k, fun w' => (tok_to va vk (X.length + (Y.length + Z.length)) X.length (by omega) w').trans (by rw [e1]; rfl), ?_⟩
  have := e2 w h.row
  simpa using this
 ·obtain ⟨a, k, e1, e2⟩ := sliced_tk (lo := X.length) (hi := X.length + Y.length) (L := X ++ Y ++ Z) (by omega) (by omega) h.cap h.shp
  refine ⟨a, k, fun w' => (tok_mid va vk (X.length + (Y.length + Z.length)) X.length (X.length + Y.length) (by omega) (by omega) w').trans (by rw [e1, Nat.add_sub_cancel_left]), ?_⟩
  have := e2 w h.row
  simpa using this
 ·obtain ⟨a, k, e1, e2⟩ := sliced_tk (lo := X.length + Y.length) (hi := X.length + (Y.length + Z.length)) (L := X ++ Y ++ Z) (by omega) (by omega) h.cap h.shp
  have ez : X.length + (Y.length + Z.length) - (X.length + Y.length) = Z.length := by omega
  rw [ez] at e1 e2
  refine ⟨a, k, fun w' => (tok_fro va vk (X.length + (Y.length + Z.length)) (X.length + Y.length) (by omega) w').trans (by rw [e1]), ?_⟩
  have := e2 w h.row
  have ed : (X ++ Y ++ Z).drop (X.length + Y.length) = Z := by
   rw [show X.length + Y.length = (X ++ Y).length by simp, List.drop_left]
  rwa [ed, List.take_of_length_le (Nat.le_refl _)] at this
set_option linter.unusedSimpArgs false in
set_option maxRecDepth 100000 in
set_option maxHeartbeats 8000000 in
theorem grafts_yes (t s : TV) (π : List Nat) (place : Int) (hok : okP π t) (hpl : place = (nuP π t : Int)) (w : World) (ht : TAt w t) (hs : TAt w s) (hsz : szT t <= 1048576) (hss : szT s <= 1048576) : Calls Try.prog 3 #[t.val, .int .i64 place, s.val] w fun e w' => e = .returned (.bool true) /\ Below w.heap.size w w' := by
 have S0 : Hid (EnvT w [(w.heap.size, t), (w.heap.size + 1, s)] ((w.alloc (tBox t)).alloc (tBox s))) := env_start t s w ht hs
 have CM : Hid (∀ X w1, TAt w1 X -> szT X <= 100000000 -> Calls Try.prog 6 #[X.val] w1 fun e w' => (∃ x y, e = .returned (.tuple #[.int .i64 (szT X : Int), .int .i64 x, .int .i64 y])) /\ Below w1.heap.size w1 w') := fun X w1 h hz => (measure_W X w1 h hz).mono fun e w' ⟨e1, e2⟩ => ⟨⟨_, _, e1⟩, e2⟩
 have CA : Hid (∀ w1, TAt w1 t -> Calls Try.prog 7 #[t.val, .int .i64 place] w1 fun e w' => ∃ T, e = .returned (.tuple #[T.val, .int .i64 0]) /\ Below w1.heap.size w1 w' /\ samV (getAt π t) T /\ OwT w1.heap.size w' T) := fun w1 h => at_W t π place hok hpl w1 h (by omega)
 have CG : Hid (∀ X w1, TAt w1 t -> TAt w1 X -> szT X <= 100000000 -> Calls Try.prog 8 #[t.val, .int .i64 place, X.val] w1 fun e w' => ∃ V, e = .returned (.tuple #[V.val, .int .i64 0]) /\ Below w1.heap.size w1 w' /\ samV (setAt π t X) V /\ TAt w' V) := fun X w1 h h' hz => graft_W t X π place hok hpl w1 h h' (by omega) hz
 have CB : Hid (∀ V w1, samV (setAt π t s) V -> TAt w1 V -> Calls Try.prog 7 #[V.val, .int .i64 place] w1 fun e w' => ∃ T, e = .returned (.tuple #[T.val, .int .i64 0]) /\ Below w1.heap.size w1 w' /\ samV (getAt π V) T /\ OwT w1.heap.size w' T) := fun V w1 hv h => by
  obtain ⟨k1, k2, -, -⟩ := sam_path π _ _ hv (ok_set π t s hok)
  have hz := samV_size _ _ hv
  have hz2 := set_size hok s
  exact at_W V π place k1 (by rw [k2, nu_set π t s hok]; exact hpl) w1 h (by omega)
 have HP : Hid (okP π t /\ place = (nuP π t : Int) /\ szT t <= 1048576 /\ szT s <= 1048576) := ⟨hok, hpl, hsz, hss⟩
 have p0 : ¬ place < 0 := by omega
 have p1 : ¬ (szT t : Int) <= place := by have := nu_lt π t hok; omega
 clear ht hs hsz hss hok hpl
 go_enter Try.func3, Try.ntmps3
 go_upto_region 1 with fail
 refine wp_world (fun w' => EnvT w [(w.heap.size, t), (w.heap.size + 1, s)] w') S0.out fun w1 h1 => ?_
 have H1 : Hid (EnvT w [(w.heap.size, t), (w.heap.size + 1, s)] w1) := h1
 clear h1 S0
 go_upto_region 3 with (go_at_call 5; refine (works_W _).mono ?_; rintro e w2 ⟨rfl, b2⟩; have H2 : Hid (EnvT w [(w.heap.size, t), (w.heap.size + 1, s)] w2) := H1.out.later b2; clear b2)
 clear H1
 obtain ⟨c0, c1, c2, c3⟩ := tb_cells (H2.out.get (k := w.heap.size) (t := t) (by simp)).1
 go_upto_region 4 with (go_at_call 6; refine (CM.out t _ (H2.out.get (k := w.heap.size) (t := t) (by simp)).2 (by have := HP.out.2.2.1; omega)).mono ?_; rintro e w3 ⟨⟨x, y, rfl⟩, b3⟩; have H3 : Hid (EnvT w [(w.heap.size, t), (w.heap.size + 1, s)] w3) := H2.out.later b3; clear b3 c0 c1 c2 c3)
 clear H2
 obtain ⟨c0, c1, c2, c3⟩ := tb_cells (H3.out.get (k := w.heap.size) (t := t) (by simp)).1
 go_upto_region 5 with (go_at_call 7; refine (CA.out _ (H3.out.get (k := w.heap.size) (t := t) (by simp)).2).mono ?_; rintro e w4 ⟨U, rfl, b4, s4, o4⟩; have H4 : Hid (EnvT w [(w4.heap.size, U), (w.heap.size, t), (w.heap.size + 1, s)] (w4.alloc (tBox U)) /\ samV (getAt π t) U) := ⟨(H3.out.later b4).add o4.ta, s4⟩; clear b4 s4 o4 c0 c1 c2 c3)
 clear H3
 generalize hW4 : w4.alloc (tBox U) = W4 at H4
 (try rw [hW4])
 clear hW4
 generalize w4.heap.size = b10 at *
 obtain ⟨c0, c1, c2, c3⟩ := tb_cells (H4.out.1.get (k := w.heap.size) (t := t) (by simp)).1
 obtain ⟨d0, d1, d2, d3⟩ := tb_cells (H4.out.1.get (k := w.heap.size + 1) (t := s) (by simp)).1
 go_upto_region 8 with (go_at_call 8; refine (CG.out s _ (H4.out.1.get (k := w.heap.size) (t := t) (by simp)).2 (H4.out.1.get (k := w.heap.size + 1) (t := s) (by simp)).2 (by have := HP.out.2.2.2; omega)).mono ?_; rintro e w5 ⟨V, rfl, b5, s5, o5⟩; have H5 : Hid (EnvT w [(w5.heap.size, V), (b10, U), (w.heap.size, t), (w.heap.size + 1, s)] (w5.alloc (tBox V)) /\ samV (getAt π t) U /\ samV (setAt π t s) V) := ⟨(H4.out.1.later b5).add o5, H4.out.2, s5⟩; clear b5 s5 o5 c0 c1 c2 c3 d0 d1 d2 d3)
 clear H4
 generalize hW5 : w5.alloc (tBox V) = W5 at H5
 (try rw [hW5])
 clear hW5
 generalize w5.heap.size = b12 at *
 generalize decide (place < 0) = r1
 generalize decide ((szT t : Int) <= place) = r2
 generalize (r1 || r2) = r3
 obtain ⟨c0, c1, c2, c3⟩ := tb_cells (H5.out.1.get (k := w.heap.size) (t := t) (by simp)).1
 obtain ⟨d0, d1, d2, d3⟩ := tb_cells (H5.out.1.get (k := b10) (t := U) (by simp)).1
 have SU : Hid (szT U <= 100000000) := by
  have h1 := samV_size _ _ H5.out.2.1
  have h2 := sub_size HP.out.1
  have h3 := HP.out.2.2.1
  show _ <= _
  omega
 go_upto_region 9 with (go_at_call 8; refine (CG.out U _ (H5.out.1.get (k := w.heap.size) (t := t) (by simp)).2 (H5.out.1.get (k := b10) (t := U) (by simp)).2 SU.out).mono ?_; rintro e w6 ⟨A2, rfl, b6, s6, o6⟩; have H6 : Hid (EnvT w [(w6.heap.size, A2), (b12, V), (b10, U), (w.heap.size, t), (w.heap.size + 1, s)] (w6.alloc (tBox A2)) /\ samV (getAt π t) U /\ samV (setAt π t s) V /\ samV (setAt π t U) A2) := ⟨(H5.out.1.later b6).add o6, H5.out.2.1, H5.out.2.2, s6⟩; clear b6 s6 o6 c0 c1 c2 c3 d0 d1 d2 d3)
 clear H5 CG
 generalize hW6 : w6.alloc (tBox A2) = W6 at H6
 (try rw [hW6])
 clear hW6
 generalize w6.heap.size = b14 at *
 obtain ⟨c0, c1, c2, c3⟩ := tb_cells (H6.out.1.get (k := b12) (t := V) (by simp)).1
 go_upto_region 10 with (go_at_call 7; refine (CB.out V _ H6.out.2.2.1 (H6.out.1.get (k := b12) (t := V) (by simp)).2).mono ?_; rintro e w7 ⟨B2, rfl, b7, s7, o7⟩; have H7 : Hid (EnvT w [(w7.heap.size, B2), (b14, A2), (b12, V), (b10, U), (w.heap.size, t), (w.heap.size + 1, s)] (w7.alloc (tBox B2)) /\ GrK t s π U V A2 B2) := ⟨(H6.out.1.later b7).add o7.ta, HP.out.1, H6.out.2.1, H6.out.2.2.1, H6.out.2.2.2, s7, HP.out.2.2.1, HP.out.2.2.2⟩; clear b7 s7 o7 c0 c1 c2 c3)
 clear H6 CB SU
 generalize hW7 : w7.alloc (tBox B2) = W7 at H7
 (try rw [hW7])
 clear hW7
 generalize w7.heap.size = b16 at *
 obtain ⟨c0, c1, c2, c3⟩ := tb_cells (H7.out.1.get (k := b14) (t := A2) (by simp)).1
 obtain ⟨d0, d1, d2, d3⟩ := tb_cells (H7.out.1.get (k := w.heap.size) (t := t) (by simp)).1
 obtain ⟨e0, e1, e2, e3⟩ := tb_cells (H7.out.1.get (k := b16) (t := B2) (by simp)).1
 obtain ⟨f0, f1, f2, f3⟩ := tb_cells (H7.out.1.get (k := w.heap.size + 1) (t := s) (by simp)).1
 have CS1 : Hid (Calls Try.prog 9 #[A2.val, t.val] W7 fun e w' => e = .returned (.bool true) /\ Below W7.heap.size W7 w') := sameTree_W A2 t W7 (H7.out.1.get (k := b14) (t := A2) (by simp)).2 (H7.out.1.get (k := w.heap.size) (t := t) (by simp)).2 H7.out.2.same.1 H7.out.2.sizes.2.2.2.1
 have CS2 : Hid (∀ w1, Below W7.heap.size W7 w1 -> Calls Try.prog 9 #[B2.val, s.val] w1 fun e w' => e = .returned (.bool true) /\ Below w1.heap.size w1 w') := fun w1 b => sameTree_W B2 s w1 ((H7.out.1.later b).get (k := b16) (t := B2) (by simp)).2 ((H7.out.1.later b).get (k := w.heap.size + 1) (t := s) (by simp)).2 H7.out.2.same.2 H7.out.2.sizes.2.2.2.2
 go_upto_region 12 with (first | (go_at_call 9; refine CS1.out.mono ?_; clear CS1; rintro e w8 ⟨rfl, b8⟩; have H8 : Hid (EnvT w [(b16, B2), (b14, A2), (b12, V), (b10, U), (w.heap.size, t), (w.heap.size + 1, s)] w8 /\ Below W7.heap.size W7 w8) := ⟨H7.out.1.later b8, b8⟩; clear b8 c0 c1 c2 c3 d0 d1 d2 d3 e0 e1 e2 e3 f0 f1 f2 f3; obtain ⟨e0, e1, e2, e3⟩ := tb_cells (H8.out.1.get (k := b16) (t := B2) (by simp)).1; obtain ⟨f0, f1, f2, f3⟩ := tb_cells (H8.out.1.get (k := w.heap.size + 1) (t := s) (by simp)).1) | (go_at_call 9; refine (CS2.out _ H8.out.2).mono ?_; rintro e w9 ⟨rfl, b9⟩; have H9 : Hid (EnvT w [(b16, B2), (b14, A2), (b12, V), (b10, U), (w.heap.size, t), (w.heap.size + 1, s)] w9) := H8.out.1.later b9; clear b9 e0 e1 e2 e3 f0 f1 f2 f3))
 have GK : Hid (GrK t s π U V A2 B2) := H7.out.2
 clear H7 H8 CS2
 obtain ⟨c0, c1, c2, c3⟩ := tb_cells (H9.out.get (k := b10) (t := U) (by simp)).1
 go_upto_region 13 with (go_at_call 6; refine (CM.out U _ (H9.out.get (k := b10) (t := U) (by simp)).2 (by have := GK.out.sizes; have := GK.out.st; omega)).mono ?_; rintro e w10 ⟨⟨x10, y10, rfl⟩, b_⟩; have H10 : Hid (EnvT w [(b16, B2), (b14, A2), (b12, V), (b10, U), (w.heap.size, t), (w.heap.size + 1, s)] w10) := H9.out.later b_; clear b_ c0 c1 c2 c3)
 clear H9
 obtain ⟨c0, c1, c2, c3⟩ := tb_cells (H10.out.get (k := w.heap.size + 1) (t := s) (by simp)).1
 go_upto_region 14 with (go_at_call 6; refine (CM.out s _ (H10.out.get (k := w.heap.size + 1) (t := s) (by simp)).2 (by have := GK.out.ss; omega)).mono ?_; rintro e w11 ⟨⟨x11, y11, rfl⟩, b_⟩; have H11 : Hid (EnvT w [(b16, B2), (b14, A2), (b12, V), (b10, U), (w.heap.size, t), (w.heap.size + 1, s)] w11) := H10.out.later b_; clear b_ c0 c1 c2 c3)
 clear H10
 obtain ⟨c0, c1, c2, c3⟩ := tb_cells (H11.out.get (k := b12) (t := V) (by simp)).1
 go_upto_region 15 with (go_at_call 6; refine (CM.out V _ (H11.out.get (k := b12) (t := V) (by simp)).2 GK.out.sizes.2.2.1).mono ?_; rintro e w12 ⟨⟨x12, y12, rfl⟩, b_⟩; have H12 : Hid (EnvT w [(b16, B2), (b14, A2), (b12, V), (b10, U), (w.heap.size, t), (w.heap.size + 1, s)] w12) := H11.out.later b_; clear b_ c0 c1 c2 c3)
 clear H11 CM
 have z1 : szT t <= 1048576 := GK.out.st
 have z2 : szT U <= szT t := GK.out.sizes.2.1
 have z3 : szT s <= 1048576 := GK.out.ss
 have z4 : szT V + szT U = szT t + szT s := GK.out.sizes.1
 have q1 : ((szT V : Int) != ((szT t : Int) - (szT U : Int) + (szT s : Int))) = false := by simp; omega
 go_upto_region 17 with fail
 clear z1 z2 z3 z4 q1 p0 p1 CA
 obtain ⟨m, hm⟩ : ∃ m : Nat, nuP π t = m := ⟨_, rfl⟩
 have hpm : place = (m : Int) := by rw [<- hm]; exact HP.out.2.1
 subst hpm
 have HM : Hid (nuP π t = m /\ m < szT t /\ szT t <= 1048576) := ⟨hm, by rw [<- hm]; exact nu_lt π t HP.out.1, HP.out.2.2.1⟩
 have CP : Hid (∀ (p : Nat) w1, p < m -> TAt w1 t -> Calls Try.prog 7 #[t.val, .int .i64 (p : Int)] w1 fun e w' => ∃ (T : TV) (x : SG), e = .returned (.tuple #[T.val, .int .i64 0]) /\ Below w1.heap.size w1 w' /\ ((preT t).map sgV)[p]? = some x /\ T.prod = x.1) := fun p w1 hp h => by
  obtain ⟨ρ, g1, g2, -⟩ := path_ex t 0 0 p (by have := HM.out.2.1; omega)
  refine (at_W t ρ (p : Int) g1 (by rw [g2]) w1 h (by have := HM.out.2.2; omega)).mono fun e w' ⟨T, e1, e2, e3, _⟩ => ⟨T, sgV (getAt ρ t), e1, e2, by rw [<- g2]; exact sg_at g1, ?_⟩
  have h1 := ((samV_iff _ _).1 e3).1
  have h2 := congrArg Prod.fst h1
  exact h2.symm
 clear hm HP
 obtain ⟨G, hG⟩ : ∃ G, (preT t).map sgV = G := ⟨_, rfl⟩
 have HG : Hid ((preT t).map sgV = G) := hG
 have GL : Hid (G.length <= 1048576) := by show _ <= _; rw [<- hG, List.length_map, preT_len]; exact HM.out.2.2
 rw [hG] at CP
 clear hG
 go_wp2
 go_loopg [27, 28] (m + 1) (fun gk z27 z28 wr => ∃ p : Nat, p <= m /\ z27 = .int .i64 ((lfS (G.take p)).length : Int) /\ z28 = .int .i64 (p : Int) /\ EnvT w [(b16, B2), (b14, A2), (b12, V), (b10, U), (w.heap.size, t), (w.heap.size + 1, s)] wr /\ m - p < gk)
 case atStart => exact ⟨0, Nat.zero_le _, by simp [lfS], rfl, H12.out, by omega⟩
 case round =>
  clear H12
  obtain ⟨p, hp, rfl, rfl, hE, hg⟩ := hrel
  have HE : Hid (EnvT w [(b16, B2), (b14, A2), (b12, V), (b10, U), (w.heap.size, t), (w.heap.size + 1, s)] wr) := hE
  have HGK : Hid (m - p < gk) := hg
  have ml : (m : Int) <= 1048576 := by have := HM.out.2; omega
  have nl : ((lfS (G.take p)).length : Int) <= 1048576 := by have h1 := lfS_len (G.take p); have h2 := GL.out; rw [List.length_take] at h1; omega
  clear hE hg
  by_cases hlt : p < m
  ·have klt : (p : Int) < (m : Int) := by omega
   obtain ⟨c0, c1, c2, c3⟩ := tb_cells (HE.out.get (k := w.heap.size) (t := t) (by simp)).1
   go_upto_region 22 with (go_at_call 7; refine (CP.out p _ hlt (HE.out.get (k := w.heap.size) (t := t) (by simp)).2).mono ?_; rintro e w13 ⟨T, x13, rfl, b_, g13, t13⟩; have H13 : Hid (EnvT w [(b16, B2), (b14, A2), (b12, V), (b10, U), (w.heap.size, t), (w.heap.size + 1, s)] (w13.alloc (tBox T)) /\ G[p]? = some x13) := ⟨(HE.out.later b_).later (below_alloc _ _), g13⟩; have T13 : Hid (T.prod = x13.1) := t13; clear b_ g13 t13 c0 c1 c2 c3)
   clear HE
   obtain ⟨y0, -, -, -⟩ := tb_cells (heap_alloc_new w13 (tBox T))
   generalize w13.alloc (tBox T) = W13 at *
   generalize w13.heap.size = b29 at *
   have LT : Hid ((lfS (G.take (p + 1))).length = (lfS (G.take p)).length + (if x13.1 = -1 then 1 else 0)) := lfS_take H13.out.2
   by_cases hx : T.prod = -1
   ·have hx2 : x13.1 = -1 := T13.out.symm.trans hx
    have h1 : (T.prod == -1) = true := by simp [hx]
    clear hx
    go_wp2
    go_roundg (gk - 1)
    case measure => have := HGK.out; omega
    case rel =>
     have := HGK.out
     have := LT.out
     rw [if_pos hx2] at this
     exact ⟨p + 1, by omega, by rw [this]; go_num, by go_num, H13.out.1, by omega⟩
   ·have hx2 : ¬ x13.1 = -1 := fun e => hx (T13.out.trans e)
    have h1 : (T.prod == -1) = false := by simp [hx]
    clear hx
    go_wp2
    go_roundg (gk - 1)
    case measure => have := HGK.out; omega
    case rel =>
     have := HGK.out
     have := LT.out
     rw [if_neg hx2] at this
     exact ⟨p + 1, by omega, by rw [this]; rfl, by go_num, H13.out.1, by omega⟩
  ·obtain rfl : p = m := by omega
   clear CP HGK hlt hp
   go_upto_region 24 with fail
   obtain ⟨LA, LU, LS, LB, hLL⟩ := GK.out.lists
   rw [HG.out, HM.out.1] at hLL
   have HL : Hid (GrL t s U V G p LA LU LS LB) := hLL
   have HZ : Hid (LA.length + LU.length + LB.length <= 1048576 /\ LS.length <= 1048576) := by
    have h1 := hLL.len
    have h2 := GK.out.st
    have h3 := GK.out.ss
    exact ⟨by omega, by omega⟩
   have hga := hLL.g
   rw [hga] at nl ⊢
   clear hga hLL
   obtain ⟨wd, hwd⟩ : ∃ wd : World, wd = wr.drew := ⟨_, rfl⟩
   have HD : Hid (EnvT w [(b16, B2), (b14, A2), (b12, V), (b10, U), (w.heap.size, t), (w.heap.size + 1, s)] wd) := by rw [hwd]; exact HE.out.later (Below.refl _ _).drew
   clear HE
   have BX : Hid (∀ w', EnvT w [(b16, B2), (b14, A2), (b12, V), (b10, U), (w.heap.size, t), (w.heap.size + 1, s)] w' -> TBx w' w.heap.size 0 t /\ TBx w' b10 0 U /\ TBx w' (w.heap.size + 1) 0 s /\ TBx w' b12 0 V) := fun w' h => ⟨tb_tbx (h.get (k := w.heap.size) (t := t) (by simp)).1, tb_tbx (h.get (k := b10) (t := U) (by simp)).1, tb_tbx (h.get (k := w.heap.size + 1) (t := s) (by simp)).1, tb_tbx (h.get (k := b12) (t := V) (by simp)).1⟩
   refine wp_region_x (S := SX 11 (fun _ => True) (fun w' => TBx w' w.heap.size 0 t /\ TBx w' b10 0 U /\ TBx w' (w.heap.size + 1) 0 s /\ TBx w' b12 0 V)) (by kernel_rfl) ?_
   rw [<- hwd]
   clear hwd
   refine wpAnyX_take (m := 11) (i := 0) (v := ?_) rfl (by kernel_rfl) (by kernel_rfl) (by decide) (by decide +kernel) (by decide +kernel) (fun _ _ _ h => h) (by kernel_rfl) (Or.inl ⟨by rfl, ?_⟩) (SX.both trivial (BX.out _ HD.out)) ?_
   rotate_left
   ·(intro w hSw; have z0 := hSw.2.1.c0; have z1 := hSw.2.1.c1; have z2 := hSw.2.1.c2; have z3 := hSw.2.1.c3; simp only [Nat.zero_add] at z1 z2 z3; clear hSw; go_simp; try (with_reducible rfl))
   (try simp only [Act.put, List.setIfInBounds_toArray, List.set_cons_zero, List.set_cons_succ])
   refine wpAnyX_take (m := 11) (i := 2) (v := ?_) rfl (by kernel_rfl) (by kernel_rfl) (by decide) (by decide +kernel) (by decide +kernel) (fun _ _ _ h => h) (by kernel_rfl) (Or.inl ⟨by rfl, ?_⟩) (SX.both trivial (BX.out _ HD.out)) ?_
   rotate_left
   ·(intro w hSw; have z0 := hSw.2.2.1.c0; have z1 := hSw.2.2.1.c1; have z2 := hSw.2.2.1.c2; have z3 := hSw.2.2.1.c3; simp only [Nat.zero_add] at z1 z2 z3; clear hSw; go_simp; try (with_reducible rfl))
   (try simp only [Act.put, List.setIfInBounds_toArray, List.set_cons_zero, List.set_cons_succ])
   refine wpAnyX_take (m := 11) (i := 4) (v := ?_) rfl (by kernel_rfl) (by kernel_rfl) (by decide) (by decide +kernel) (by decide +kernel) (fun _ _ _ h => h) (by kernel_rfl) (Or.inl ⟨by rfl, ?_⟩) (SX.both trivial (BX.out _ HD.out)) ?_
   rotate_left
   ·(intro w hSw; have z0 := hSw.2.2.2.1.c0; have z1 := hSw.2.2.2.1.c1; have z2 := hSw.2.2.2.1.c2; have z3 := hSw.2.2.2.1.c3; simp only [Nat.zero_add] at z1 z2 z3; clear hSw; go_simp; try (with_reducible rfl))
   (try simp only [Act.put, List.setIfInBounds_toArray, List.set_cons_zero, List.set_cons_succ])
   refine wpAnyX_take (m := 11) (i := 6) (v := ?_) rfl (by kernel_rfl) (by kernel_rfl) (by decide) (by decide +kernel) (by decide +kernel) (fun _ _ _ h => h) (by kernel_rfl) (Or.inl ⟨by rfl, ?_⟩) (SX.both trivial (BX.out _ HD.out)) ?_
   rotate_left
   ·(intro w hSw; have z0 := hSw.2.2.2.2.c0; have z1 := hSw.2.2.2.2.c1; have z2 := hSw.2.2.2.2.c2; have z3 := hSw.2.2.2.2.c3; simp only [Nat.zero_add] at z1 z2 z3; clear hSw; go_simp; try (with_reducible rfl))
   (try simp only [Act.put, List.setIfInBounds_toArray, List.set_cons_zero, List.set_cons_succ])
   refine wpAnyX_one (j := 1) (by decide +kernel) rfl (fun K' hK => ?_)
   refine step_callX rfl 10 #[t.val] _ (run_yield1 (v0 := t.val) rfl rfl _) (yield_L t (LA ++ LU ++ LB) HL.out.t wd (HD.out.get (k := w.heap.size) (t := t) (by simp)).2 (by have := GK.out.st; omega)) ?_
   rintro e wy1 ⟨wa, wk, rfl, hrow, hbel⟩
   refine ⟨_, rfl, ?_⟩
   have Hwy1 : Hid (EnvT w [(b16, B2), (b14, A2), (b12, V), (b10, U), (w.heap.size, t), (w.heap.size + 1, s)] wy1 /\ TkL wy1 wa wk (LA ++ LU ++ LB)) := ⟨HD.out.later hbel, hrow⟩
   clear hrow hbel
   refine hK.out _ _ (SX.both trivial (BX.out _ Hwy1.out.1)) ?_
   clear hK K'
   (try simp only [Act.put, List.setIfInBounds_toArray, List.set_cons_zero, List.set_cons_succ])
   refine wpAnyX_one (j := 3) (by decide +kernel) rfl (fun K' hK => ?_)
   refine step_callX rfl 10 #[U.val] _ (run_yield1 (v0 := U.val) rfl rfl _) (yield_L U LU HL.out.u wy1 (Hwy1.out.1.get (k := b10) (t := U) (by simp)).2 (by have := GK.out.sizes; have := GK.out.st; omega)) ?_
   rintro e wy3 ⟨ua, uk, rfl, hrow, hbel⟩
   refine ⟨_, rfl, ?_⟩
   have Hwy3 : Hid (EnvT w [(b16, B2), (b14, A2), (b12, V), (b10, U), (w.heap.size, t), (w.heap.size + 1, s)] wy3 /\ TkL wy3 wa wk (LA ++ LU ++ LB) /\ TkL wy3 ua uk LU) := ⟨Hwy1.out.1.later hbel, Hwy1.out.2.later hbel, hrow⟩
   clear hrow hbel
   refine hK.out _ _ (SX.both trivial (BX.out _ Hwy3.out.1)) ?_
   clear hK K'
   (try simp only [Act.put, List.setIfInBounds_toArray, List.set_cons_zero, List.set_cons_succ])
   refine wpAnyX_one (j := 5) (by decide +kernel) rfl (fun K' hK => ?_)
   refine step_callX rfl 10 #[s.val] _ (run_yield1 (v0 := s.val) rfl rfl _) (yield_L s LS HL.out.s wy3 (Hwy3.out.1.get (k := (w.heap.size + 1)) (t := s) (by simp)).2 (by have := GK.out.ss; omega)) ?_
   rintro e wy5 ⟨sa, sk, rfl, hrow, hbel⟩
   refine ⟨_, rfl, ?_⟩
   have Hwy5 : Hid (EnvT w [(b16, B2), (b14, A2), (b12, V), (b10, U), (w.heap.size, t), (w.heap.size + 1, s)] wy5 /\ TkL wy5 wa wk (LA ++ LU ++ LB) /\ TkL wy5 ua uk LU /\ TkL wy5 sa sk LS) := ⟨Hwy3.out.1.later hbel, (Hwy3.out.2.1).later hbel, (Hwy3.out.2.2).later hbel, hrow⟩
   clear hrow hbel
   refine hK.out _ _ (SX.both trivial (BX.out _ Hwy5.out.1)) ?_
   clear hK K'
   (try simp only [Act.put, List.setIfInBounds_toArray, List.set_cons_zero, List.set_cons_succ])
   refine wpAnyX_one (j := 7) (by decide +kernel) rfl (fun K' hK => ?_)
   refine step_callX rfl 10 #[V.val] _ (run_yield1 (v0 := V.val) rfl rfl _) (yield_L V (LA ++ LS ++ LB) HL.out.v wy5 (Hwy5.out.1.get (k := b12) (t := V) (by simp)).2 GK.out.sizes.2.2.1) ?_
   rintro e wy7 ⟨va, vk, rfl, hrow, hbel⟩
   refine ⟨_, rfl, ?_⟩
   have Hwy7 : Hid (EnvT w [(b16, B2), (b14, A2), (b12, V), (b10, U), (w.heap.size, t), (w.heap.size + 1, s)] wy7 /\ TkL wy7 wa wk (LA ++ LU ++ LB) /\ TkL wy7 ua uk LU /\ TkL wy7 sa sk LS /\ TkL wy7 va vk (LA ++ LS ++ LB)) := ⟨Hwy5.out.1.later hbel, (Hwy5.out.2.1).later hbel, (Hwy5.out.2.2.1).later hbel, (Hwy5.out.2.2.2).later hbel, hrow⟩
   clear hrow hbel
   refine hK.out _ _ (SX.both trivial (BX.out _ Hwy7.out.1)) ?_
   clear hK K'
   (try simp only [Act.put, List.setIfInBounds_toArray, List.set_cons_zero, List.set_cons_succ])
   refine wpAnyX_take (m := 11) (i := 8) (v := ?_) rfl (by kernel_rfl) (by kernel_rfl) (by decide) (by decide +kernel) (by decide +kernel) (fun _ _ _ h => h) (by kernel_rfl) (Or.inl ⟨by rfl, ?_⟩) (SX.both trivial (BX.out _ Hwy7.out.1)) ?_
   rotate_left
   ·(intro w hSw; clear hSw; go_simp; try (with_reducible rfl))
   (try simp only [Act.put, List.setIfInBounds_toArray, List.set_cons_zero, List.set_cons_succ])
   refine wpAnyX_take (m := 11) (i := 9) (v := ?_) rfl (by kernel_rfl) (by kernel_rfl) (by decide) (by decide +kernel) (by decide +kernel) (fun _ _ _ h => h) (by kernel_rfl) (Or.inl ⟨by rfl, ?_⟩) (SX.both trivial (BX.out _ Hwy7.out.1)) ?_
   rotate_left
   ·(intro w hSw; clear hSw; go_simp; try (with_reducible rfl))
   (try simp only [Act.put, List.setIfInBounds_toArray, List.set_cons_zero, List.set_cons_succ])
   refine wpAnyX_take (m := 11) (i := 10) (v := ?_) rfl (by kernel_rfl) (by kernel_rfl) (by decide) (by decide +kernel) (by decide +kernel) (fun _ _ _ h => h) (by kernel_rfl) (Or.inl ⟨by rfl, ?_⟩) (SX.both trivial (BX.out _ Hwy7.out.1)) ?_
   rotate_left
   ·(intro w hSw; clear hSw; go_simp; try (with_reducible rfl))
   (try simp only [Act.put, List.setIfInBounds_toArray, List.set_cons_zero, List.set_cons_succ])
   refine wpAnyX_one (j := 11) (by decide +kernel) rfl (fun K' hK => ?_)
   go_simp
   refine hK.out _ _ (SX.both trivial (BX.out _ Hwy7.out.1)) ?_
   clear hK K'
   (try simp only [Act.put, List.setIfInBounds_toArray, List.set_cons_zero, List.set_cons_succ])
   refine wpAnyX_done (by decide +kernel) ?_
   have HY : Hid (Below w.heap.size w wy7 /\ TkL wy7 wa wk (LA ++ LU ++ LB) /\ TkL wy7 ua uk LU /\ TkL wy7 sa sk LS /\ TkL wy7 va vk (LA ++ LS ++ LB)) := ⟨Hwy7.out.1.bel, Hwy7.out.2⟩
   clear Hwy7 HL BX GK HG GL HM Hwy5 Hwy3 Hwy1 HD
   obtain ⟨lA, hA⟩ : ∃ n, LA.length = n := ⟨_, rfl⟩
   obtain ⟨lU, hU⟩ : ∃ n, LU.length = n := ⟨_, rfl⟩
   obtain ⟨lS, hS⟩ : ∃ n, LS.length = n := ⟨_, rfl⟩
   obtain ⟨lB, hB⟩ : ∃ n, LB.length = n := ⟨_, rfl⟩
   have HN : Hid (LA.length = lA /\ LU.length = lU /\ LS.length = lS /\ LB.length = lB /\ lA + lU + lB <= 1048576 /\ lS <= 1048576) := ⟨hA, hU, hS, hB, by have := HZ.out; omega, by have := HZ.out; omega⟩
   have n1 : lA + lU + lB <= 1048576 := HN.out.2.2.2.2.1
   have n2 : lS <= 1048576 := HN.out.2.2.2.2.2
   rw [hA] at nl
   rw [hA, hU, hS, hB]
   clear HZ hA hU hS hB nl
   have q1 : (((lA : Int) + ((lS : Int) + (lB : Int))) != ((lA : Int) + ((lU : Int) + (lB : Int)) - (lU : Int) + (lS : Int))) = false := by simp; omega
   have q2 : ¬ ((lA : Int) + ((lU : Int) + (lB : Int)) < (lA : Int) + (lU : Int)) := by omega
   go_upto_region 27 with fail
   clear q1 q2
   obtain ⟨wq, hwq⟩ : ∃ wq : World, wq = wy7.drew := ⟨_, rfl⟩
   obtain ⟨⟨y1, k1, f1, g1⟩, ⟨y3, k3, f3, g3⟩, ⟨y4, k4, f4, g4⟩⟩ := tok_cut HY.out.2.2.2.2 HN.out.1 HN.out.2.2.1 HN.out.2.2.2.1
   obtain ⟨⟨y2, k2, f2, g2⟩, -, ⟨y5, k5, f5, g5⟩⟩ := tok_cut HY.out.2.1 HN.out.1 HN.out.2.1 HN.out.2.2.2.1
   have HQ : Hid (Below w.heap.size w wq /\ TkRow wq y1 LA /\ TkRow wq y2 LA /\ TkRow wq y3 LS /\ TkRow wq sa LS /\ TkRow wq y4 LB /\ TkRow wq y5 LB) := by
    have hb : Below wy7.heap.size wy7 wq := by rw [hwq]; exact (Below.refl _ _).drew
    exact ⟨HY.out.1.trans (hb.mono HY.out.1.size), g1.later hb, g2.later hb, g3.later hb, HY.out.2.2.2.1.row.later hb, g4.later hb, g5.later hb⟩
   have C1 : Hid (∀ w', Below wq.heap.size wq w' -> Calls Try.prog 11 #[.slice y1 lA k1, .slice y2 lA k2] w' fun e w'' => e = .returned (.bool true) /\ Below w'.heap.size w' w'') := fun w' b => by
    have := sameTokens_W y1 y2 k1 k2 LA w' (HQ.out.2.1.later b) (HQ.out.2.2.1.later b) (by have := HN.out; omega)
    rwa [HN.out.1] at this
   have C2 : Hid (∀ w', Below wq.heap.size wq w' -> Calls Try.prog 11 #[.slice y3 lS k3, .slice sa lS sk] w' fun e w'' => e = .returned (.bool true) /\ Below w'.heap.size w' w'') := fun w' b => by
    have := sameTokens_W y3 sa k3 sk LS w' (HQ.out.2.2.2.1.later b) (HQ.out.2.2.2.2.1.later b) (by have := HN.out; omega)
    rwa [HN.out.2.2.1] at this
   have C3 : Hid (∀ w', Below wq.heap.size wq w' -> Calls Try.prog 11 #[.slice y4 lB k4, .slice y5 lB k5] w' fun e w'' => e = .returned (.bool true) /\ Below w'.heap.size w' w'') := fun w' b => by
    have := sameTokens_W y4 y5 k4 k5 LB w' (HQ.out.2.2.2.2.2.1.later b) (HQ.out.2.2.2.2.2.2.later b) (by have := HN.out; omega)
    rwa [HN.out.2.2.2.1] at this
   have e1 : IntKind.i64.wrap ((lA : Int) + (lS : Int)) = (lA : Int) + (lS : Int) := IntWalk.i64_in _ ⟨by omega, by omega⟩
   have e2 : IntKind.i64.wrap ((lA : Int) + (lU : Int)) = (lA : Int) + (lU : Int) := IntWalk.i64_in _ ⟨by omega, by omega⟩
   clear g1 g2 g3 g4 g5
   refine wp_region_x (S := SX 33 (fun w' => Below wq.heap.size wq w') (fun _ => True)) (by kernel_rfl) ?_
   rw [<- hwq]
   clear hwq
   refine wpAnyX_take (m := 33) (i := 0) (v := ?_) rfl (by kernel_rfl) (by kernel_rfl) (by decide) (by decide +kernel) (by decide +kernel) (fun _ _ _ h => h) (by kernel_rfl) (Or.inl ⟨by rfl, ?_⟩) (SX.both (Below.refl _ _) trivial) ?_
   rotate_left
   ·(intro w hSw; clear hSw; go_simp; try (with_reducible rfl))
   (try simp only [Act.put, List.setIfInBounds_toArray, List.set_cons_zero, List.set_cons_succ])
   refine wpAnyX_take (m := 33) (i := 1) (v := ?_) rfl (by kernel_rfl) (by kernel_rfl) (by decide) (by decide +kernel) (by decide +kernel) (fun _ _ _ h => h) (by kernel_rfl) (Or.inl ⟨by rfl, ?_⟩) (SX.both (Below.refl _ _) trivial) ?_
   rotate_left
   ·(intro w hSw; clear hSw; go_simp; try (with_reducible rfl))
   (try simp only [Act.put, List.setIfInBounds_toArray, List.set_cons_zero, List.set_cons_succ])
   refine wpAnyX_take (m := 33) (i := 2) (v := ?_) rfl (by kernel_rfl) (by kernel_rfl) (by decide) (by decide +kernel) (by decide +kernel) (fun _ _ _ h => h) (by kernel_rfl) (Or.inl ⟨by rfl, ?_⟩) (SX.both (Below.refl _ _) trivial) ?_
   rotate_left
   ·(intro w hSw; clear hSw; go_simp; try (with_reducible rfl))
   (try simp only [Act.put, List.setIfInBounds_toArray, List.set_cons_zero, List.set_cons_succ])
   refine wpAnyX_take (m := 33) (i := 3) (v := ?_) rfl (by kernel_rfl) (by kernel_rfl) (by decide) (by decide +kernel) (by decide +kernel) (fun _ _ _ h => h) (by kernel_rfl) (Or.inl ⟨by rfl, ?_⟩) (SX.both (Below.refl _ _) trivial) ?_
   rotate_left
   ·(intro w hSw; clear hSw; go_simp; try (with_reducible rfl))
   (try simp only [Act.put, List.setIfInBounds_toArray, List.set_cons_zero, List.set_cons_succ])
   refine wpAnyX_take (m := 33) (i := 4) (v := ?_) rfl (by kernel_rfl) (by kernel_rfl) (by decide) (by decide +kernel) (by decide +kernel) (fun _ _ _ h => h) (by kernel_rfl) (Or.inl ⟨by rfl, ?_⟩) (SX.both (Below.refl _ _) trivial) ?_
   rotate_left
   ·(intro w hSw; clear hSw; go_simp; try (with_reducible rfl))
   (try simp only [Act.put, List.setIfInBounds_toArray, List.set_cons_zero, List.set_cons_succ])
   refine wpAnyX_take (m := 33) (i := 5) (v := ?_) rfl (by kernel_rfl) (by kernel_rfl) (by decide) (by decide +kernel) (by decide +kernel) (fun _ _ _ h => h) (by kernel_rfl) (Or.inl ⟨by rfl, ?_⟩) (SX.both (Below.refl _ _) trivial) ?_
   rotate_left
   ·(intro w hSw; clear hSw; go_simp; try (with_reducible rfl))
   (try simp only [Act.put, List.setIfInBounds_toArray, List.set_cons_zero, List.set_cons_succ])
   refine wpAnyX_one (j := 6) (by decide +kernel) rfl (fun K' hK => ?_)
   refine step_callXH (by rfl) 11 #[.slice y1 lA k1, .slice y2 lA k2] _ (run_sameTok2 (v0 := .slice y1 lA k1) (v1 := .slice y2 lA k2) rfl rfl rfl _) (C1.out wq (Below.refl _ _)) ?_
   rintro e wz1 ⟨rfl, b_⟩
   refine ⟨_, rfl, ?_⟩
   have Bwz1 : Hid (Below wq.heap.size wq wz1) := b_
   clear b_
   refine hK.out _ _ (SX.both Bwz1.out trivial) ?_
   clear hK K'
   (try simp only [Act.put, List.setIfInBounds_toArray, List.set_cons_zero, List.set_cons_succ])
   refine wpAnyX_take (m := 33) (i := 7) (v := ?_) rfl (by kernel_rfl) (by kernel_rfl) (by decide) (by decide +kernel) (by decide +kernel) (fun _ _ _ h => h) (by kernel_rfl) (Or.inl ⟨by rfl, ?_⟩) (SX.both Bwz1.out trivial) ?_
   rotate_left
   ·(intro w hSw; clear hSw; go_simp; try (with_reducible rfl))
   (try simp only [Act.put, List.setIfInBounds_toArray, List.set_cons_zero, List.set_cons_succ])
   refine wpAnyX_take (m := 33) (i := 8) (v := ?_) rfl (by kernel_rfl) (by kernel_rfl) (by decide) (by decide +kernel) (by decide +kernel) (fun _ _ _ h => h) (by kernel_rfl) (Or.inl ⟨by rfl, ?_⟩) (SX.both Bwz1.out trivial) ?_
   rotate_left
   ·(intro w hSw; clear hSw; go_simp; try (with_reducible rfl))
   (try simp only [Act.put, List.setIfInBounds_toArray, List.set_cons_zero, List.set_cons_succ])
   refine wpAnyX_take (m := 33) (i := 9) (v := ?_) rfl (by kernel_rfl) (by kernel_rfl) (by decide) (by decide +kernel) (by decide +kernel) (fun _ _ _ h => h) (by kernel_rfl) (Or.inl ⟨by rfl, ?_⟩) (SX.both Bwz1.out trivial) ?_
   rotate_left
   ·(intro w hSw; clear hSw; go_simp; try (with_reducible rfl))
   (try simp only [Act.put, List.setIfInBounds_toArray, List.set_cons_zero, List.set_cons_succ])
   refine wpAnyX_take (m := 33) (i := 10) (v := ?_) rfl (by kernel_rfl) (by kernel_rfl) (by decide) (by decide +kernel) (by decide +kernel) (fun _ _ _ h => h) (by kernel_rfl) (Or.inl ⟨by rfl, ?_⟩) (SX.both Bwz1.out trivial) ?_
   rotate_left
   ·(intro w hSw; clear hSw; go_simp; try (with_reducible rfl))
   (try simp only [Act.put, List.setIfInBounds_toArray, List.set_cons_zero, List.set_cons_succ])
   refine wpAnyX_take (m := 33) (i := 11) (v := ?_) rfl (by kernel_rfl) (by kernel_rfl) (by decide) (by decide +kernel) (by decide +kernel) (fun _ _ _ h => h) (by kernel_rfl) (Or.inl ⟨by rfl, ?_⟩) (SX.both Bwz1.out trivial) ?_
   rotate_left
   ·(intro w hSw; clear hSw; go_simp; try (with_reducible rfl))
   (try simp only [Act.put, List.setIfInBounds_toArray, List.set_cons_zero, List.set_cons_succ])
   refine wpAnyX_take (m := 33) (i := 12) (v := ?_) rfl (by kernel_rfl) (by kernel_rfl) (by decide) (by decide +kernel) (by decide +kernel) (fun _ _ _ h => h) (by kernel_rfl) (Or.inl ⟨by rfl, ?_⟩) (SX.both Bwz1.out trivial) ?_
   rotate_left
   ·(intro w hSw; clear hSw; go_simp; try (with_reducible rfl))
   (try simp only [Act.put, List.setIfInBounds_toArray, List.set_cons_zero, List.set_cons_succ])
   refine wpAnyX_take (m := 33) (i := 13) (v := ?_) rfl (by kernel_rfl) (by kernel_rfl) (by decide) (by decide +kernel) (by decide +kernel) (fun _ _ _ h => h) (by kernel_rfl) (Or.inl ⟨by rfl, ?_⟩) (SX.both Bwz1.out trivial) ?_
   rotate_left
   ·(intro w hSw; clear hSw; go_simp; try (with_reducible rfl))
   (try simp only [Act.put, List.setIfInBounds_toArray, List.set_cons_zero, List.set_cons_succ])
   refine wpAnyX_take (m := 33) (i := 14) (v := ?_) rfl (by kernel_rfl) (by kernel_rfl) (by decide) (by decide +kernel) (by decide +kernel) (fun _ _ _ h => h) (by kernel_rfl) (Or.inl ⟨by rfl, ?_⟩) (SX.both Bwz1.out trivial) ?_
   rotate_left
   ·(intro w hSw; clear hSw; go_simp; try (with_reducible rfl))
   (try simp only [Act.put, List.setIfInBounds_toArray, List.set_cons_zero, List.set_cons_succ])
   refine wpAnyX_take (m := 33) (i := 15) (v := ?_) rfl (by kernel_rfl) (by kernel_rfl) (by decide) (by decide +kernel) (by decide +kernel) (fun _ _ _ h => h) (by kernel_rfl) (Or.inl ⟨by rfl, ?_⟩) (SX.both Bwz1.out trivial) ?_
   rotate_left
   ·(intro w hSw; clear hSw; go_simp; try (with_reducible rfl))
   (try simp only [Act.put, List.setIfInBounds_toArray, List.set_cons_zero, List.set_cons_succ])
   refine wpAnyX_one (j := 16) (by decide +kernel) rfl (fun K' hK => ?_)
   refine step_callXH (by rfl) 11 #[.slice y3 lS k3, .slice sa lS sk] _ (run_sameTok2 (v0 := .slice y3 lS k3) (v1 := .slice sa lS sk) rfl rfl rfl _) (C2.out wz1 Bwz1.out) ?_
   rintro e wz2 ⟨rfl, b_⟩
   refine ⟨_, rfl, ?_⟩
   have Bwz2 : Hid (Below wq.heap.size wq wz2) := Bwz1.out.trans (b_.mono Bwz1.out.size)
   clear b_
   refine hK.out _ _ (SX.both Bwz2.out trivial) ?_
   clear hK K'
   (try simp only [Act.put, List.setIfInBounds_toArray, List.set_cons_zero, List.set_cons_succ])
   refine wpAnyX_take (m := 33) (i := 17) (v := ?_) rfl (by kernel_rfl) (by kernel_rfl) (by decide) (by decide +kernel) (by decide +kernel) (fun _ _ _ h => h) (by kernel_rfl) (Or.inl ⟨by rfl, ?_⟩) (SX.both Bwz2.out trivial) ?_
   rotate_left
   ·(intro w hSw; clear hSw; go_simp; try (with_reducible rfl))
   (try simp only [Act.put, List.setIfInBounds_toArray, List.set_cons_zero, List.set_cons_succ])
   refine wpAnyX_take (m := 33) (i := 18) (v := ?_) rfl (by kernel_rfl) (by kernel_rfl) (by decide) (by decide +kernel) (by decide +kernel) (fun _ _ _ h => h) (by kernel_rfl) (Or.inl ⟨by rfl, ?_⟩) (SX.both Bwz2.out trivial) ?_
   rotate_left
   ·(intro w hSw; clear hSw; go_simp; try (with_reducible rfl))
   (try simp only [Act.put, List.setIfInBounds_toArray, List.set_cons_zero, List.set_cons_succ])
   refine wpAnyX_take (m := 33) (i := 19) (v := ?_) rfl (by kernel_rfl) (by kernel_rfl) (by decide) (by decide +kernel) (by decide +kernel) (fun _ _ _ h => h) (by kernel_rfl) (Or.inl ⟨by rfl, ?_⟩) (SX.both Bwz2.out trivial) ?_
   rotate_left
   ·(intro w hSw; clear hSw; go_simp; try (with_reducible rfl))
   (try simp only [Act.put, List.setIfInBounds_toArray, List.set_cons_zero, List.set_cons_succ])
   refine wpAnyX_take (m := 33) (i := 20) (v := ?_) rfl (by kernel_rfl) (by kernel_rfl) (by decide) (by decide +kernel) (by decide +kernel) (fun _ _ _ h => h) (by kernel_rfl) (Or.inl ⟨by rfl, ?_⟩) (SX.both Bwz2.out trivial) ?_
   rotate_left
   ·(intro w hSw; clear hSw; go_simp; try (with_reducible rfl))
   (try simp only [Act.put, List.setIfInBounds_toArray, List.set_cons_zero, List.set_cons_succ])
   refine wpAnyX_take (m := 33) (i := 21) (v := ?_) rfl (by kernel_rfl) (by kernel_rfl) (by decide) (by decide +kernel) (by decide +kernel) (fun _ _ _ h => h) (by kernel_rfl) (Or.inl ⟨by rfl, ?_⟩) (SX.both Bwz2.out trivial) ?_
   rotate_left
   ·(intro w hSw; clear hSw; go_simp; try (with_reducible rfl))
   (try simp only [Act.put, List.setIfInBounds_toArray, List.set_cons_zero, List.set_cons_succ])
   refine wpAnyX_take (m := 33) (i := 22) (v := ?_) rfl (by kernel_rfl) (by kernel_rfl) (by decide) (by decide +kernel) (by decide +kernel) (fun _ _ _ h => h) (by kernel_rfl) (Or.inl ⟨by rfl, ?_⟩) (SX.both Bwz2.out trivial) ?_
   rotate_left
   ·(intro w hSw; clear hSw; go_simp; try (with_reducible rfl))
   (try simp only [Act.put, List.setIfInBounds_toArray, List.set_cons_zero, List.set_cons_succ])
   refine wpAnyX_take (m := 33) (i := 23) (v := ?_) rfl (by kernel_rfl) (by kernel_rfl) (by decide) (by decide +kernel) (by decide +kernel) (fun _ _ _ h => h) (by kernel_rfl) (Or.inl ⟨by rfl, ?_⟩) (SX.both Bwz2.out trivial) ?_
   rotate_left
   ·(intro w hSw; clear hSw; go_simp; try (with_reducible rfl))
   (try simp only [Act.put, List.setIfInBounds_toArray, List.set_cons_zero, List.set_cons_succ])
   refine wpAnyX_take (m := 33) (i := 24) (v := ?_) rfl (by kernel_rfl) (by kernel_rfl) (by decide) (by decide +kernel) (by decide +kernel) (fun _ _ _ h => h) (by kernel_rfl) (Or.inl ⟨by rfl, ?_⟩) (SX.both Bwz2.out trivial) ?_
   rotate_left
   ·(intro w hSw; clear hSw; go_simp; try (with_reducible rfl))
   (try simp only [Act.put, List.setIfInBounds_toArray, List.set_cons_zero, List.set_cons_succ])
   refine wpAnyX_take (m := 33) (i := 25) (v := ?_) rfl (by kernel_rfl) (by kernel_rfl) (by decide) (by decide +kernel) (by decide +kernel) (fun _ _ _ h => h) (by kernel_rfl) (Or.inl ⟨by rfl, ?_⟩) (SX.both Bwz2.out trivial) ?_
   rotate_left
   ·(intro w hSw; clear hSw; go_simp; try (with_reducible rfl))
   (try simp only [Act.put, List.setIfInBounds_toArray, List.set_cons_zero, List.set_cons_succ])
   refine wpAnyX_take (m := 33) (i := 26) (v := ?_) rfl (by kernel_rfl) (by kernel_rfl) (by decide) (by decide +kernel) (by decide +kernel) (fun _ _ _ h => h) (by kernel_rfl) (Or.inl ⟨by rfl, ?_⟩) (SX.both Bwz2.out trivial) ?_
   rotate_left
   ·(intro w hSw; clear hSw; go_simp; try (with_reducible rfl))
   (try simp only [Act.put, List.setIfInBounds_toArray, List.set_cons_zero, List.set_cons_succ])
   refine wpAnyX_take (m := 33) (i := 27) (v := ?_) rfl (by kernel_rfl) (by kernel_rfl) (by decide) (by decide +kernel) (by decide +kernel) (fun _ _ _ h => h) (by kernel_rfl) (Or.inl ⟨by rfl, ?_⟩) (SX.both Bwz2.out trivial) ?_
   rotate_left
   ·(intro w hSw; clear hSw; go_simp; try (with_reducible rfl))
   (try simp only [Act.put, List.setIfInBounds_toArray, List.set_cons_zero, List.set_cons_succ])
   refine wpAnyX_take (m := 33) (i := 28) (v := ?_) rfl (by kernel_rfl) (by kernel_rfl) (by decide) (by decide +kernel) (by decide +kernel) (fun _ _ _ h => h) (by kernel_rfl) (Or.inl ⟨by rfl, ?_⟩) (SX.both Bwz2.out trivial) ?_
   rotate_left
   ·(intro w hSw; clear hSw; go_simp; try (with_reducible rfl))
   (try simp only [Act.put, List.setIfInBounds_toArray, List.set_cons_zero, List.set_cons_succ])
   refine wpAnyX_take (m := 33) (i := 29) (v := ?_) rfl (by kernel_rfl) (by kernel_rfl) (by decide) (by decide +kernel) (by decide +kernel) (fun _ _ _ h => h) (by kernel_rfl) (Or.inl ⟨by rfl, ?_⟩) (SX.both Bwz2.out trivial) ?_
   rotate_left
   ·(intro w hSw; clear hSw; go_simp; try (with_reducible rfl))
   (try simp only [Act.put, List.setIfInBounds_toArray, List.set_cons_zero, List.set_cons_succ])
   refine wpAnyX_take (m := 33) (i := 30) (v := ?_) rfl (by kernel_rfl) (by kernel_rfl) (by decide) (by decide +kernel) (by decide +kernel) (fun _ _ _ h => h) (by kernel_rfl) (Or.inl ⟨by rfl, ?_⟩) (SX.both Bwz2.out trivial) ?_
   rotate_left
   ·(intro w hSw; clear hSw; go_simp; try (with_reducible rfl))
   (try simp only [Act.put, List.setIfInBounds_toArray, List.set_cons_zero, List.set_cons_succ])
   refine wpAnyX_one (j := 31) (by decide +kernel) rfl (fun K' hK => ?_)
   refine step_callXH (by rfl) 11 #[.slice y4 lB k4, .slice y5 lB k5] _ (run_sameTok2 (v0 := .slice y4 lB k4) (v1 := .slice y5 lB k5) rfl rfl rfl _) (C3.out wz2 Bwz2.out) ?_
   rintro e wz3 ⟨rfl, b_⟩
   refine ⟨_, rfl, ?_⟩
   have Bwz3 : Hid (Below wq.heap.size wq wz3) := Bwz2.out.trans (b_.mono Bwz2.out.size)
   clear b_
   refine hK.out _ _ (SX.both Bwz3.out trivial) ?_
   clear hK K'
   (try simp only [Act.put, List.setIfInBounds_toArray, List.set_cons_zero, List.set_cons_succ])
   refine wpAnyX_take (m := 33) (i := 32) (v := ?_) rfl (by kernel_rfl) (by kernel_rfl) (by decide) (by decide +kernel) (by decide +kernel) (fun _ _ _ h => h) (by kernel_rfl) (Or.inl ⟨by rfl, ?_⟩) (SX.both Bwz3.out trivial) ?_
   rotate_left
   ·(intro w hSw; clear hSw; go_simp; try (with_reducible rfl))
   (try simp only [Act.put, List.setIfInBounds_toArray, List.set_cons_zero, List.set_cons_succ])
   refine wpAnyX_one (j := 33) (by decide +kernel) rfl (fun K' hK => ?_)
   go_simp
   refine hK.out _ _ (SX.both Bwz3.out trivial) ?_
   clear hK K'
   (try simp only [Act.put, List.setIfInBounds_toArray, List.set_cons_zero, List.set_cons_succ])
   refine wpAnyX_done (by decide +kernel) ?_
   go_wp2
   go_ret
   exact ⟨rfl, HQ.out.1.trans (Bwz3.out.mono HQ.out.1.size)⟩
theorem grafts_walk (t s : TV) (place : Int) (w : World) (ht : TAt w t) (hs : TAt w s) (hsz : (plT 0 t).length <= 1048576) (hss : (plT 0 s).length <= 1048576) : Calls Try.prog 3 #[t.val, .int .i64 place, s.val] w fun e w' => e = .returned (.bool true) /\ Below w.heap.size w w' := by
 by_cases h : place < 0 ∨ (szT t : Int) <= place
 ·exact grafts_no t s place h w ht hs hsz hss
 ·obtain ⟨π, h1, h2, _⟩ := path_ex t 0 0 place.toNat (by omega)
  exact grafts_yes t s π place h1 (by rw [h2]; omega) w ht hs hsz hss
end Go.Proofs.Ytcihjkmaadkfcaa
