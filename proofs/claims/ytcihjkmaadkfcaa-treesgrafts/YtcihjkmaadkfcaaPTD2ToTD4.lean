import Derived.Test.YtcihjkmaadkfcaaPTCzToTD1
namespace Go.Proofs.Ytcihjkmaadkfcaa
set_option linter.unusedVariables false
open Go.RowKit
theorem OwT.mono {N N' : Nat} {w : World} {T : TV} (h : OwT N w T) (hn : N' <= N) : OwT N' w T := ⟨h.ta, h.cn, fun a ha => ⟨Nat.le_trans hn (h.ty a ha).1, (h.ty a ha).2⟩⟩
theorem OwT.later {N : Nat} {w w' : World} {T : TV} (h : OwT N w T) (hb : Below w.heap.size w w') : OwT N w' T := h.kept (fun _ ha => hb.block _ (kids_lt h.ta ha)) hb.size
theorem ads_nu {π : List Nat} {t : TV} (hok : okP π t) (p q : Nat) : (adsT p q t)[nuP π t]? = some (adP π p q t) := by
 obtain ⟨A, B, h1, h2, _⟩ := ads_set π p q t hok
 rw [h2, <- h1, adsT_eq]
 simp
theorem fd_in {π : List Nat} {t : TV} (hok : okP π t) (p q : Nat) : fdU p q t (nuP π t : Int) = some ⟨(adP π p q t).1, (adP π p q t).2, none⟩ := by
 have h := ads_nu hok p q
 unfold adsT at h
 rw [List.getElem?_map] at h
 unfold fdU
 rw [if_pos (by omega), Int.toNat_natCast]
 cases e : (enA (evT p q t))[nuP π t]? with
 | none => rw [e] at h; cases h
 | some x =>
  rw [e] at h
  simp only [Option.map_some, Option.some.injEq] at h
  rw [<- h]
  rfl
theorem fd_out {t : TV} {place : Int} (h : place < 0 ∨ (szT t : Int) <= place) (p q : Nat) : fdU p q t place = none := by
 unfold fdU
 split
 ·rw [List.getElem?_eq_none (by rw [enA_evT_len]; omega)]
  rfl
 ·rfl
theorem sub_size {π : List Nat} {t : TV} (hok : okP π t) : szT (getAt π t) <= szT t := by
 obtain ⟨A, B, _, h2, _⟩ := pre_set π t hok
 have h3 := congrArg List.length h2
 simp only [List.length_map, List.length_append, preT_len] at h3
 omega
theorem z_cells {w : World} {b : Nat} (h : w.heap[b]? = some zTree) : w.cell? ⟨b, 0, none⟩ = some (.int .i64 0) /\ w.cell? ⟨b, 1, none⟩ = some (.int .i64 0) /\ w.cell? ⟨b, 2, none⟩ = some (.string ByteArray.empty) /\ w.cell? ⟨b, 3, none⟩ = some (.slice none 0 0) /\ w.frozen? ⟨b, 0, none⟩ = false /\ w.frozen? ⟨b, 1, none⟩ = false /\ w.frozen? ⟨b, 2, none⟩ = false /\ w.frozen? ⟨b, 3, none⟩ = false :=
 ⟨(cellq_any h).trans rfl, (cellq_any h).trans rfl, (cellq_any h).trans rfl, (cellq_any h).trans rfl, by simp [World.frozen?, h], by simp [World.frozen?, h], by simp [World.frozen?, h], by simp [World.frozen?, h]⟩
set_option linter.unusedSimpArgs false in
set_option maxRecDepth 100000 in
set_option maxHeartbeats 4000000 in
theorem at_W (t : TV) (π : List Nat) (place : Int) (hok : okP π t) (hpl : place = (nuP π t : Int)) (w : World) (ht : TAt w t) (hsz : szT t <= 100000000) : Calls Try.prog 7 #[t.val, .int .i64 place] w fun e w' => ∃ T, e = .returned (.tuple #[T.val, .int .i64 0]) /\ Below w.heap.size w w' /\ samV (getAt π t) T /\ OwT w.heap.size w' T := by
 have hb1 : Below w.heap.size w (w.alloc (tBox t)) := below_alloc _ _
 have hn : (w.alloc (tBox t)).heap.size = w.heap.size + 1 := by simp
 have hb2 : Below w.heap.size w ((w.alloc (tBox t)).alloc zTree) := hb1.trans ((below_alloc _ _).mono hb1.size)
 have S0 : Hid (TBx ((w.alloc (tBox t)).alloc zTree) w.heap.size 0 t /\ TAt ((w.alloc (tBox t)).alloc zTree) t /\ Below w.heap.size w ((w.alloc (tBox t)).alloc zTree) /\ ((w.alloc (tBox t)).alloc zTree).heap[w.heap.size + 1]? = some zTree) := ⟨(tbx_new w t).later (below_alloc _ _), ht.later hb2, hb2, by have := heap_alloc_new (w.alloc (tBox t)) zTree; rwa [hn] at this⟩
 have CF : Hid (∀ w1, TBx w1 w.heap.size 0 t -> TAt w1 t -> Calls Try.prog 21 #[.pointer (some ⟨w.heap.size, 0, none⟩), .int .i64 place] w1 fun e w' => e = .returned (.pointer (some ⟨(adP π w.heap.size 0 t).1, (adP π w.heap.size 0 t).2, none⟩)) /\ Below w1.heap.size w1 w') := fun w1 h1 h2 => by
  have := find_W w.heap.size 0 t place w1 h1 h2 hsz
  rwa [hpl, fd_in hok, <- hpl] at this
 have AP : Hid (∀ w1, TBx w1 w.heap.size 0 t -> TAt w1 t -> TBx w1 (adP π w.heap.size 0 t).1 (adP π w.heap.size 0 t).2 (getAt π t) /\ TAt w1 (getAt π t)) := fun w1 h1 h2 => at_path π w.heap.size 0 t h1 h2 hok
 have ZZ : Hid (szT (getAt π t) <= 100000000) := Nat.le_trans (sub_size hok) hsz
 clear ht hsz hb1 hb2 hn hok hpl
 generalize (adP π w.heap.size 0 t).1 = P at *
 generalize (adP π w.heap.size 0 t).2 = Q at *
 generalize getAt π t = k at *
 go_enter Try.func7, Try.ntmps7
 go_upto_region 1 with fail
 refine wp_world (fun w' => TBx w' w.heap.size 0 t /\ TAt w' t /\ Below w.heap.size w w' /\ w'.heap[w.heap.size + 1]? = some zTree) S0.out fun w1 h1 => ?_
 have H1 : Hid (TBx w1 w.heap.size 0 t /\ TAt w1 t /\ Below w.heap.size w w1 /\ w1.heap[w.heap.size + 1]? = some zTree) := h1
 clear h1 S0
 go_upto_region 2 with (go_at_call 21; refine (CF.out _ H1.out.1 H1.out.2.1).mono ?_; rintro e w2 ⟨rfl, b2⟩; have H2 : Hid (TBx w2 P Q k /\ TAt w2 k /\ Below w.heap.size w w2 /\ w2.heap[w.heap.size + 1]? = some zTree) := ⟨(AP.out _ H1.out.1 H1.out.2.1).1.later b2, (AP.out _ H1.out.1 H1.out.2.1).2.later b2, H1.out.2.2.1.trans (b2.mono H1.out.2.2.1.size), (b2.block _ (lt_of_block H1.out.2.2.2)).trans H1.out.2.2.2⟩; clear b2)
 clear H1 CF AP
 have c0 := H2.out.1.c0
 have c1 := H2.out.1.c1
 have c2 := H2.out.1.c2
 have c3 := H2.out.1.c3
 have CC : Hid (Calls Try.prog 22 #[k.val] w2 fun e w' => ∃ T, e = .returned T.val /\ Below w2.heap.size w2 w' /\ samV k T /\ OwT w2.heap.size w' T) := copied_W k w2 H2.out.2.1 ZZ.out
 have FIN : Hid (∀ w3 T, Below w2.heap.size w2 w3 -> OwT w2.heap.size w3 T -> w3.heap[w.heap.size + 1]? = some zTree /\ Below w.heap.size w w3 /\ TBx (set4 w3 (w.heap.size + 1) 0 T) (w.heap.size + 1) 0 T /\ Below w.heap.size w (set4 w3 (w.heap.size + 1) 0 T) /\ OwT w.heap.size (set4 w3 (w.heap.size + 1) 0 T) T) := fun w3 T b3 o3 => by
  have hz : w3.heap[w.heap.size + 1]? = some zTree := (b3.block _ (lt_of_block H2.out.2.2.2)).trans H2.out.2.2.2
  have hb : Below w.heap.size w w3 := H2.out.2.2.1.trans (b3.mono H2.out.2.2.1.size)
  have hl := lt_of_block H2.out.2.2.2
  refine ⟨hz, hb, set4_tbx (v0 := .int .i64 0) (v1 := .int .i64 0) (v2 := .string ByteArray.empty) (v3 := .slice none 0 0) T ((cellq_any hz).trans rfl) ((cellq_any hz).trans rfl) ((cellq_any hz).trans rfl) ((cellq_any hz).trans rfl) (lt_of_block hz), set4_below hb 0 T (by omega), (o3.mono H2.out.2.2.1.size).kept (fun a ha => set4_other _ _ _ _ _ ?_) (by rw [set4_size]; exact Nat.le_refl _)⟩
  have := (o3.ty a ha).1
  omega
 clear H2
 go_wp2_with (go_at_call 22; refine CC.out.mono ?_; rintro e w3 ⟨T, rfl, b3, s3, o3⟩; obtain ⟨z3, F⟩ := FIN.out w3 T b3 o3; have F3 : Hid (Below w.heap.size w w3 /\ TBx (set4 w3 (w.heap.size + 1) 0 T) (w.heap.size + 1) 0 T /\ Below w.heap.size w (set4 w3 (w.heap.size + 1) 0 T) /\ OwT w.heap.size (set4 w3 (w.heap.size + 1) 0 T) T) := F; have SM : Hid (samV k T) := s3; obtain ⟨d0, d1, d2, d3, f0, f1, f2, f3⟩ := z_cells z3; clear F s3 b3 o3 z3 c0 c1 c2 c3)
 change bodyPost _ _ _ _ _ (set4 w3 (w.heap.size + 1) 0 T)
 generalize set4 w3 (w.heap.size + 1) 0 T = w4 at *
 have x0 := F3.out.2.1.c0
 have x1 := F3.out.2.1.c1
 have x2 := F3.out.2.1.c2
 have x3 := F3.out.2.1.c3
 simp only [Nat.zero_add] at x1 x2 x3
 refine bodyPost_ret (v := .tuple #[T.val, .int .i64 0]) (by simp [results, Try.results7, go_sem, x0, x1, x2, x3]) rfl ?_
 exact ⟨T, rfl, F3.out.2.2.1, SM.out, F3.out.2.2.2⟩
set_option linter.unusedSimpArgs false in
set_option maxRecDepth 100000 in
set_option maxHeartbeats 4000000 in
theorem at_no (t : TV) (place : Int) (hpl : place < 0 ∨ (szT t : Int) <= place) (w : World) (ht : TAt w t) (hsz : szT t <= 100000000) : Calls Try.prog 7 #[t.val, .int .i64 place] w fun e w' => e = .returned (.tuple #[TV.none.val, .int .i64 4]) /\ Below w.heap.size w w' := by
 have hb1 : Below w.heap.size w (w.alloc (tBox t)) := below_alloc _ _
 have hn : (w.alloc (tBox t)).heap.size = w.heap.size + 1 := by simp
 have hb2 : Below w.heap.size w ((w.alloc (tBox t)).alloc zTree) := hb1.trans ((below_alloc _ _).mono hb1.size)
 have S0 : Hid (TBx ((w.alloc (tBox t)).alloc zTree) w.heap.size 0 t /\ TAt ((w.alloc (tBox t)).alloc zTree) t /\ Below w.heap.size w ((w.alloc (tBox t)).alloc zTree) /\ ((w.alloc (tBox t)).alloc zTree).heap[w.heap.size + 1]? = some zTree) := ⟨(tbx_new w t).later (below_alloc _ _), ht.later hb2, hb2, by have := heap_alloc_new (w.alloc (tBox t)) zTree; rwa [hn] at this⟩
 have CF : Hid (∀ w1, TBx w1 w.heap.size 0 t -> TAt w1 t -> Calls Try.prog 21 #[.pointer (some ⟨w.heap.size, 0, none⟩), .int .i64 place] w1 fun e w' => e = .returned (.pointer none) /\ Below w1.heap.size w1 w') := fun w1 h1 h2 => by
  have := find_W w.heap.size 0 t place w1 h1 h2 hsz
  rwa [fd_out hpl] at this
 clear ht hsz hb1 hb2 hn hpl
 go_enter Try.func7, Try.ntmps7
 go_upto_region 1 with fail
 refine wp_world (fun w' => TBx w' w.heap.size 0 t /\ TAt w' t /\ Below w.heap.size w w' /\ w'.heap[w.heap.size + 1]? = some zTree) S0.out fun w1 h1 => ?_
 have H1 : Hid (TBx w1 w.heap.size 0 t /\ TAt w1 t /\ Below w.heap.size w w1 /\ w1.heap[w.heap.size + 1]? = some zTree) := h1
 clear h1 S0
 go_upto_region 2 with (go_at_call 21; refine (CF.out _ H1.out.1 H1.out.2.1).mono ?_; rintro e w2 ⟨rfl, b2⟩; have H2 : Hid (Below w.heap.size w w2 /\ w2.heap[w.heap.size + 1]? = some zTree) := ⟨H1.out.2.2.1.trans (b2.mono H1.out.2.2.1.size), (b2.block _ (lt_of_block H1.out.2.2.2)).trans H1.out.2.2.2⟩; clear b2)
 clear H1 CF
 have z3 := H2.out.2
 obtain ⟨d0, d1, d2, d3, f0, f1, f2, f3⟩ := z_cells z3
 have F3 : Hid (TBx (set4 w2 (w.heap.size + 1) 0 .none) (w.heap.size + 1) 0 .none /\ Below w.heap.size w (set4 w2 (w.heap.size + 1) 0 .none)) := ⟨set4_tbx .none d0 d1 d2 d3 (lt_of_block z3), set4_below H2.out.1 0 .none (by omega)⟩
 clear z3 H2
 go_wp2
 change bodyPost _ _ _ _ _ (set4 w2 (w.heap.size + 1) 0 .none)
 generalize set4 w2 (w.heap.size + 1) 0 .none = w4 at *
 have x0 := F3.out.1.c0
 have x1 := F3.out.1.c1
 have x2 := F3.out.1.c2
 have x3 := F3.out.1.c3
 simp only [Nat.zero_add] at x1 x2 x3
 refine bodyPost_ret (v := .tuple #[TV.none.val, .int .i64 4]) (by simp [results, Try.results7, go_sem, x0, x1, x2, x3]) rfl ?_
 exact ⟨rfl, F3.out.2⟩
theorem samV_symm (a : TV) : ∀ b, samV a b -> samV b a := by
 induction a using TV.ind with
 | _ a ih =>
  intro b h
  obtain ⟨h1, h2⟩ := (samV_iff a b).1 h
  exact (samV_iff b a).2 ⟨h1.symm, fun i hi hi' => ih _ (List.getElem_mem hi') _ (h2 i hi' hi)⟩
theorem samL_size : ∀ (l m : List TV), l.length = m.length -> (∀ i (h : i < l.length) (h' : i < m.length), samV l[i] m[i]) -> szL l = szL m
 | [], [], _, _ => rfl
 | [], _ :: _, h, _ => by simp at h
 | _ :: _, [], h, _ => by simp at h
 | x :: l, y :: m, h, hs => by
  have e1 := samV_size x y (hs 0 (by simp) (by simp))
  have e2 := samL_size l m (by simpa using h) (fun i h1 h2 => hs (i + 1) (by simpa using h1) (by simpa using h2))
  rw [szL_cons, szL_cons, e1, e2]
theorem sam_path : ∀ (π : List Nat) (a b : TV), samV a b -> okP π a -> okP π b /\ nuP π b = nuP π a /\ samV (getAt π a) (getAt π b) /\ ∀ s S, samV s S -> samV (setAt π a s) (setAt π b S)
 | [], _, _, h, _ => ⟨trivial, rfl, h, fun _ _ h => h⟩
 | i :: π, a, b, h, ⟨hi, hp⟩ => by
  obtain ⟨h1, h2⟩ := (samV_iff a b).1 h
  have hl := sgV_len h1
  have hib : i < b.kids.length := by rw [<- hl]; exact hi
  have ea : a.kids.getD i .none = a.kids[i] := by simp [List.getD, hi]
  have eb : b.kids.getD i .none = b.kids[i] := by simp [List.getD, hib]
  rw [ea] at hp
  obtain ⟨g1, g2, g3, g4⟩ := sam_path π a.kids[i] b.kids[i] (h2 i hi hib) hp
  refine ⟨⟨hib, by rw [eb]; exact g1⟩, ?_, ?_, fun s S hs => ?_⟩
  ·rw [nuP, nuP, ea, eb, g2, samL_size (b.kids.take i) (a.kids.take i) (by simp [hl]) (fun j hj hj' => ?_)]
   simp only [List.getElem_take]
   have hj1 : j < a.kids.length := by simp at hj'; omega
   have hj2 : j < b.kids.length := by simp at hj; omega
   exact samV_symm _ _ (h2 j hj1 hj2)
  ·rw [getAt, getAt, ea, eb]; exact g3
  ·have es : setAt (i :: π) a s = a.sk (a.kids.set i (setAt π a.kids[i] s)) := by rw [setAt, ea]
   have es' : setAt (i :: π) b S = b.sk (b.kids.set i (setAt π b.kids[i] S)) := by rw [setAt, eb]
   rw [es, es']
   refine (samV_iff _ _).2 ⟨(sgV_sk (by simp)).trans (h1.trans (sgV_sk (by simp)).symm), fun j hj hj' => ?_⟩
   have hj1 : j < a.kids.length := by
    have : j < (a.kids.set i (setAt π a.kids[i] s)).length := hj
    simpa using this
   have hj2 : j < b.kids.length := by rw [<- hl]; exact hj1
   have e1 : (a.sk (a.kids.set i (setAt π a.kids[i] s))).kids[j]'hj = (a.kids.set i (setAt π a.kids[i] s))[j]'(by simpa using hj1) := rfl
   have e2 : (b.sk (b.kids.set i (setAt π b.kids[i] S))).kids[j]'hj' = (b.kids.set i (setAt π b.kids[i] S))[j]'(by simpa using hj2) := rfl
   rw [e1, e2, List.getElem_set, List.getElem_set]
   split
   ·exact g4 s S hs
   ·exact h2 j hj1 hj2
theorem step_storeO {ops : Array Oper} {o : Oper} {a : Act} {w : World} {K : Act -> World -> Prop} {Q : Exit -> Act -> World -> Prop} {E : Prop} (hg : o.guard = none) (ty : TypeId) (x y : Operand) (hop : o.op = .store ty x y) (b off : Nat) (cells : Array Value) (hx : a.eval x = .pointer (some ⟨b, off, none⟩)) (hy : a.eval y = .agg cells)
  (ht : w.there b off cells.size) (hi : (Try.prog.info? ty).map (·.size) = some cells.size) (h1 : cells.all (·.oneCell') = true) (hK : K (a.put o.dst undef) (w.setCells b off cells.toList)) : if Region.wanted o (yielded ops a.tmps) = true then Oper.wp Try.prog o a w K Q else E := by
 have hw : Region.wanted o (yielded ops a.tmps) = true := by simp [Region.wanted, hg]
 rw [if_pos hw]
 exact wp_store_mid ty x y hop b off cells hx hy ht hi h1 hK
theorem run_find2 {o : Oper} {a : Act} {t0 t1 : TypeId} {v0 v1 : Value} {x0 x1 : Operand} (hop : o.op = Op.call { callee := Callee.value (Operand.func 21), args := #[x0, x1], argTypes := #[t0, t1] }) (h0 : a.eval x0 = v0) (h1 : a.eval x1 = v1) (w : World) : (execOp a.eval o).run Try.prog w = .ok (.enter 21 #[v0, v1]) w := by
 have hf : a.eval (Operand.func 21) = .func (.func 21) #[] #[] := rfl
 simp [execOp, hop, resolve, invoke, h0, h1, hf, Deferred.ofValue]
theorem run_copied1 {o : Oper} {a : Act} {t0 : TypeId} {v0 : Value} {x0 : Operand} (hop : o.op = Op.call { callee := Callee.value (Operand.func 22), args := #[x0], argTypes := #[t0] }) (h0 : a.eval x0 = v0) (w : World) : (execOp a.eval o).run Try.prog w = .ok (.enter 22 #[v0]) w := by
 have hf : a.eval (Operand.func 22) = .func (.func 22) #[] #[] := rfl
 simp [execOp, hop, resolve, invoke, h0, hf, Deferred.ofValue]
theorem tbx_there {w : World} {b o : Nat} {t : TV} {cs : Array Value} (h : TBx w b o t) (hty : w.heap[b]? = some (.cells cs 26)) : w.there b o 4 := fun j hj => by
 have : j = 0 ∨ j = 1 ∨ j = 2 ∨ j = 3 := by omega
 refine ⟨?_, by simp [World.frozen?, hty]⟩
 rcases this with rfl | rfl | rfl | rfl
 ·rw [Nat.add_zero, h.c0]; rfl
 ·rw [h.c1]; rfl
 ·rw [h.c2]; rfl
 ·rw [h.c3]; rfl
structure GfS (n : Nat) (w0 : World) (t s : TV) (w : World) : Prop where
 bel : Below n w0 w
 tt : TBx w n 0 t
 st : TBx w (n + 1) 0 s
 ta : TAt w t
 sa : TAt w s
 rz : w.heap[n + 1 + 1]? = some zTree
theorem GfS.later {n : Nat} {w0 : World} {t s : TV} {w w' : World} (h : GfS n w0 t s w) (hn : n <= w.heap.size) (hb : Below w.heap.size w w') : GfS n w0 t s w' :=
 ⟨h.bel.trans (hb.mono hn), h.tt.later hb, h.st.later hb, h.ta.later hb, h.sa.later hb, (hb.block _ (lt_of_block h.rz)).trans h.rz⟩
theorem GfS.sz {n : Nat} {w0 : World} {t s : TV} {w : World} (h : GfS n w0 t s w) : n + 2 < w.heap.size := lt_of_block h.rz
theorem gfs_start (t s : TV) (w : World) (ht : TAt w t) (hs : TAt w s) : GfS w.heap.size w t s (((w.alloc (tBox t)).alloc (tBox s)).alloc zTree) := by
 have hb1 : Below w.heap.size w (w.alloc (tBox t)) := below_alloc _ _
 have hn1 : (w.alloc (tBox t)).heap.size = w.heap.size + 1 := by simp
 have hb2 : Below w.heap.size w ((w.alloc (tBox t)).alloc (tBox s)) := hb1.trans ((below_alloc _ _).mono hb1.size)
 have hn2 : ((w.alloc (tBox t)).alloc (tBox s)).heap.size = w.heap.size + 1 + 1 := by simp
 have hb3 : Below w.heap.size w (((w.alloc (tBox t)).alloc (tBox s)).alloc zTree) := hb2.trans ((below_alloc _ _).mono hb2.size)
 have h2 := tbx_new (w.alloc (tBox t)) s
 rw [hn1] at h2
 have h3 := heap_alloc_new ((w.alloc (tBox t)).alloc (tBox s)) zTree
 rw [hn2] at h3
 exact ⟨hb3, ((tbx_new w t).later (below_alloc _ _)).later (below_alloc _ _), h2.later (below_alloc _ _), ht.later hb3, hs.later hb3, h3⟩
structure GfO (n : Nat) (w0 : World) (t s : TV) (T : TV) (b : Nat) (w : World) : Prop extends GfS n w0 t s w where
 nb : n + 2 < b
 ob : TBx w b 0 T
 oy : ∃ cs, w.heap[b]? = some (.cells cs 26)
 ow : OwT (n + 3) w T
 on : ∀ a ∈ adsL (kidsA T), a.1 < b
theorem GfO.later {n : Nat} {w0 : World} {t s T : TV} {b : Nat} {w w' : World} (h : GfO n w0 t s T b w) (hb : Below w.heap.size w w') : GfO n w0 t s T b w' := by
 have hs := h.toGfS.sz
 obtain ⟨cs, hc⟩ := h.oy
 exact ⟨h.toGfS.later (by omega) hb, h.nb, h.ob.later hb, ⟨cs, (hb.block _ (lt_of_block hc)).trans hc⟩, h.ow.later hb, h.on⟩
theorem gfo_start {n : Nat} {w0 : World} {t s T : TV} {w w2 : World} (h : GfS n w0 t s w) (hb : Below w.heap.size w w2) (ho : OwT w.heap.size w2 T) : GfO n w0 t s T w2.heap.size (w2.alloc (tBox T)) := by
 have hs := h.sz
 have h2 := h.later (by omega) hb
 have hs2 := h2.sz
 have bb : Below w2.heap.size w2 (w2.alloc (tBox T)) := below_alloc _ _
 exact ⟨h2.later (by omega) bb, hs2, tbx_new w2 T, ⟨_, heap_alloc_new w2 (tBox T)⟩, (ho.mono (by omega)).later bb, fun a ha => kids_lt ho.ta ha⟩
theorem GfO.set {n : Nat} {w0 : World} {t s T : TV} {b : Nat} {w w2 : World} (h : GfO n w0 t s T b w) (hb : Below w.heap.size w w2) {S : TV} (hS : TAt w2 S) (hSo : ∀ a ∈ adsL (kidsA S), w.heap.size <= a.1) (π : List Nat) (hok : okP π T) :
  w2.there (adP π b 0 T).1 (adP π b 0 T).2 4 /\ Below n w0 (set4 w2 (adP π b 0 T).1 (adP π b 0 T).2 S) /\ (set4 w2 (adP π b 0 T).1 (adP π b 0 T).2 S).heap[n + 1 + 1]? = some zTree /\ TBx (set4 w2 (adP π b 0 T).1 (adP π b 0 T).2 S) b 0 (setAt π T S) /\ TAt (set4 w2 (adP π b 0 T).1 (adP π b 0 T).2 S) (setAt π T S) /\ ∀ a ∈ adsL (kidsA (setAt π T S)), n + 3 <= a.1 := by
 have h2 := h.later hb
 obtain ⟨hpb, hpt⟩ := at_path π b 0 T h2.ob h2.ow.ta hok
 have hmem := adP_mem π b 0 T w2 h2.ow.ta hok
 have hlt : (adP π b 0 T).1 < w.heap.size := ads_lt h.ob h.ow.ta hmem
 have hcn : ∀ a, (adsT b 0 T).count a <= 1 := fun a => by
  rw [adsT_eq, List.count_cons]
  split
  ·rename_i e
   have e : (b, 0) = a := by simpa using e
   have : (adsL (kidsA T)).count a = 0 := List.count_eq_zero.2 fun hm => by
    have := h.on a hm
    subst e
    simp only at this
    omega
   omega
  ·have := h.ow.cn a
   omega
 have hty : ∀ a ∈ adsT b 0 T, n + 3 <= a.1 /\ a.2 % 4 = 0 /\ ∃ cs, w2.heap[a.1]? = some (.cells cs 26) := fun a ha => by
  rw [adsT_eq] at ha
  rcases List.mem_cons.1 ha with rfl | hm
  ·exact ⟨h.nb, rfl, h2.oy⟩
  ·exact h2.ow.ty a hm
 obtain ⟨hn3, hal, cs, htyP⟩ := hty _ hmem
 have hz := h2.toGfS.sz
 generalize hP : (adP π b 0 T).1 = P at *
 generalize hQ : (adP π b 0 T).2 = Q at *
 have hPQ : adP π b 0 T = (P, Q) := by rw [<- hP, <- hQ]
 have hC4 : ∀ a ∈ adsT b 0 T, a ≠ (P, Q) -> C4 w2 (set4 w2 P Q S) a := fun a hma hne => by
  refine ⟨by rw [set4_size]; exact ads_lt h2.ob h2.ow.ta hma, fun j hj => set4_far _ _ _ _ _ fun i hi e => ?_⟩
  simp only [Addr.mk.injEq, and_true] at e
  have h1 := (hty a hma).2.1
  exact hne (Prod.ext e.1 (by show a.2 = Q; omega))
 have hsame : ∀ j, j ≠ P -> (set4 w2 P Q S).heap[j]? = w2.heap[j]? := fun j hj => set4_other _ _ _ _ _ hj
 have hS' : TAt (set4 w2 P Q S) S := keep_at S 0 0 hS fun a ha => ⟨by rw [set4_size]; exact kids_lt hS ha, fun j _ => World.cell?_of_block (hsame _ (show a.1 ≠ P by have := hSo a ha; omega))⟩
 have hold : ∀ x : Nat, x < n + 3 -> (set4 w2 P Q S).heap[x]? = w2.heap[x]? := fun x hx => hsame x (by omega)
 obtain ⟨u1, u2⟩ := upd_at (w := w2) (w' := set4 w2 P Q S) (u := S) π b 0 T h2.ob h2.ow.ta hok (hcn _) (by rw [hPQ]; exact hC4) (by rw [hPQ]; exact set4_tbx S hpb.c0 hpb.c1 hpb.c2 hpb.c3 hpb.lt) hS'
 refine ⟨tbx_there hpb htyP, set4_below h2.bel Q S (by omega), (hold _ (by omega)).trans h2.rz, u1, u2, fun a ha => ?_⟩
 obtain ⟨A, B, _, hA2, hA3⟩ := ads_set π b 0 T hok
 have ha' : a ∈ adsT b 0 (setAt π T S) := by rw [adsT_eq]; exact List.mem_cons_of_mem _ ha
 have hz1 := h.toGfS.sz
 rw [hA3, hPQ, adsT_eq] at ha'
 rcases List.mem_append.1 ha' with ha' | ha'
 ·rcases List.mem_append.1 ha' with ha' | ha'
  ·exact (hty a (by rw [hA2]; simp [ha'])).1
  ·rcases List.mem_cons.1 ha' with rfl | hm
   ·exact hn3
   ·have := hSo a hm; omega
 ·exact (hty a (by rw [hA2]; simp [ha'])).1
set_option linter.unusedSimpArgs false in
set_option maxRecDepth 100000 in
set_option maxHeartbeats 4000000 in
theorem graft_W (t s : TV) (π : List Nat) (place : Int) (hok : okP π t) (hpl : place = (nuP π t : Int)) (w : World) (ht : TAt w t) (hs : TAt w s) (hsz : szT t <= 100000000) (hss : szT s <= 100000000) : Calls Try.prog 8 #[t.val, .int .i64 place, s.val] w fun e w' => ∃ V, e = .returned (.tuple #[V.val, .int .i64 0]) /\ Below w.heap.size w w' /\ samV (setAt π t s) V /\ TAt w' V := by
 have S0 : Hid (GfS w.heap.size w t s (((w.alloc (tBox t)).alloc (tBox s)).alloc zTree)) := gfs_start t s w ht hs
 have CF : Hid (∀ w1, GfS w.heap.size w t s w1 -> Calls Try.prog 21 #[.pointer (some ⟨w.heap.size, 0, none⟩), .int .i64 place] w1 fun e w' => e = .returned (.pointer (some ⟨(adP π w.heap.size 0 t).1, (adP π w.heap.size 0 t).2, none⟩)) /\ GfS w.heap.size w t s w') := fun w1 h1 => by
  have := find_W w.heap.size 0 t place w1 h1.tt h1.ta hsz
  rw [hpl, fd_in hok, <- hpl] at this
  exact this.mono fun e w' ⟨e1, e2⟩ => ⟨e1, h1.later (by have := h1.sz; omega) e2⟩
 have CC : Hid (∀ w1, GfS w.heap.size w t s w1 -> Calls Try.prog 22 #[t.val] w1 fun e w' => ∃ T, e = .returned T.val /\ samV t T /\ GfO w.heap.size w t s T w'.heap.size (w'.alloc (tBox T))) := fun w1 h1 => by
  refine (copied_W t w1 h1.ta hsz).mono fun e w' ⟨T, e1, e2, e3, e4⟩ => ⟨T, e1, e3, gfo_start h1 e2 e4⟩
 have CG : Hid (∀ T b w1, samV t T -> GfO w.heap.size w t s T b w1 -> Calls Try.prog 21 #[.pointer (some ⟨b, 0, none⟩), .int .i64 place] w1 fun e w' => e = .returned (.pointer (some ⟨(adP π b 0 T).1, (adP π b 0 T).2, none⟩)) /\ GfO w.heap.size w t s T b w') := fun T b w1 hT h1 => by
  obtain ⟨g1, g2, -, -⟩ := sam_path π t T hT hok
  have := find_W b 0 T place w1 h1.ob h1.ow.ta (by rw [<- samV_size _ _ hT]; exact hsz)
  rw [hpl, <- g2, fd_in g1, g2, <- hpl] at this
  exact this.mono fun e w' ⟨e1, e2⟩ => ⟨e1, h1.later e2⟩
 have CS : Hid (∀ T b w1, samV t T -> GfO w.heap.size w t s T b w1 -> Calls Try.prog 22 #[s.val] w1 fun e w' => ∃ S, e = .returned S.val /\ GfO w.heap.size w t s T b w' /\ samV (setAt π t s) (setAt π T S) /\ w'.there (adP π b 0 T).1 (adP π b 0 T).2 4 /\ Below w.heap.size w (set4 w' (adP π b 0 T).1 (adP π b 0 T).2 S) /\ (set4 w' (adP π b 0 T).1 (adP π b 0 T).2 S).heap[w.heap.size + 1 + 1]? = some zTree /\ TBx (set4 w' (adP π b 0 T).1 (adP π b 0 T).2 S) b 0 (setAt π T S) /\ TAt (set4 w' (adP π b 0 T).1 (adP π b 0 T).2 S) (setAt π T S) /\ ∀ a ∈ adsL (kidsA (setAt π T S)), w.heap.size + 3 <= a.1) := fun T b w1 hT h1 => by
  obtain ⟨g1, -, -, g4⟩ := sam_path π t T hT hok
  refine (copied_W s w1 h1.sa hss).mono fun e w' ⟨S, e1, e2, e3, e4⟩ => ⟨S, e1, h1.later e2, g4 s S e3, h1.set e2 e4.ta (fun a ha => (e4.ty a ha).1) π g1⟩
 clear ht hs hsz hss hok hpl
 generalize (adP π w.heap.size 0 t).1 = P at *
 generalize (adP π w.heap.size 0 t).2 = Q at *
 go_enter Try.func8, Try.ntmps8
 go_upto_region 1 with fail
 refine wp_world (fun w' => GfS w.heap.size w t s w') S0.out fun w1 h1 => ?_
 have H1 : Hid (GfS w.heap.size w t s w1) := h1
 clear h1 S0
 go_upto_region 3 with (go_at_call 21; refine (CF.out _ H1.out).mono ?_; rintro e w2 ⟨rfl, h2⟩; have H2 : Hid (GfS w.heap.size w t s w2) := h2; clear h2)
 clear H1 CF
 have c0 := H2.out.tt.c0
 have c1 := H2.out.tt.c1
 have c2 := H2.out.tt.c2
 have c3 := H2.out.tt.c3
 go_upto_region 4 with (go_at_call 22; refine (CC.out _ H2.out).mono ?_; rintro e w3 ⟨T, rfl, s3, o3⟩; have O3 : Hid (samV t T /\ GfO w.heap.size w t s T w3.heap.size (w3.alloc (tBox T))) := ⟨s3, o3⟩; clear s3 o3 c0 c1 c2 c3)
 clear H2 CC
 obtain ⟨wd, hwd⟩ : ∃ wd : World, wd = (w3.alloc (tBox T)).drew := ⟨_, rfl⟩
 have HD : Hid (GfO w.heap.size w t s T w3.heap.size wd) := by rw [hwd]; exact O3.out.2.later (Below.refl _ _).drew
 have SM : Hid (samV t T) := O3.out.1
 clear O3
 refine wp_region_x (S := SX 5 (fun _ => True) (fun w' => TBx w' (w.heap.size + 1) 0 s)) (by kernel_rfl) ?_
 rw [<- hwd]
 clear hwd
 generalize w3.heap.size = b at *
 refine wpAnyX_take (m := 5) (i := 0) (v := ?_) rfl (by kernel_rfl) (by kernel_rfl) (by decide) (by decide +kernel) (by decide +kernel) (fun _ _ _ h => h) (by kernel_rfl) (Or.inl ⟨by rfl, ?_⟩) (SX.both trivial HD.out.st) ?_
 rotate_left
 ·(intro w hSw; clear hSw; go_simp; try (with_reducible rfl))
 (try simp only [Act.put, List.setIfInBounds_toArray, List.set_cons_zero, List.set_cons_succ])
 refine wpAnyX_take (m := 5) (i := 2) (v := ?_) rfl (by kernel_rfl) (by kernel_rfl) (by decide) (by decide +kernel) (by decide +kernel) (fun _ _ _ h => h) (by kernel_rfl) (Or.inl ⟨by rfl, ?_⟩) (SX.both trivial HD.out.st) ?_
 rotate_left
 ·(intro w hSw; have z0 := hSw.2.c0; have z1 := hSw.2.c1; have z2 := hSw.2.c2; have z3 := hSw.2.c3; simp only [Nat.zero_add] at z1 z2 z3; clear hSw; go_simp; try (with_reducible rfl))
 (try simp only [Act.put, List.setIfInBounds_toArray, List.set_cons_zero, List.set_cons_succ])
 refine wpAnyX_one (j := 1) (by decide +kernel) rfl (fun K' hK => ?_)
 refine step_callX rfl 21 #[.pointer (some ⟨b, 0, none⟩), .int .i64 place] _ (run_find2 (v0 := .pointer (some ⟨b, 0, none⟩)) (v1 := .int .i64 place) rfl rfl rfl _) (CG.out T b wd SM.out HD.out) ?_
 rintro e w5 ⟨rfl, h5⟩
 refine ⟨_, rfl, ?_⟩
 have H5 : Hid (GfO w.heap.size w t s T b w5) := h5
 clear h5 HD CG
 refine hK.out _ _ (SX.both trivial H5.out.st) ?_
 clear hK K'
 (try simp only [Act.put, List.setIfInBounds_toArray, List.set_cons_zero, List.set_cons_succ])
 refine wpAnyX_one (j := 3) (by decide +kernel) rfl (fun K' hK => ?_)
 refine step_callX rfl 22 #[s.val] _ (run_copied1 (v0 := s.val) rfl rfl _) (CS.out T b w5 SM.out H5.out) ?_
 rintro e w6 ⟨S, rfl, h6⟩
 refine ⟨_, rfl, ?_⟩
 have H6 : Hid (GfO w.heap.size w t s T b w6 /\ samV (setAt π t s) (setAt π T S) /\ w6.there (adP π b 0 T).1 (adP π b 0 T).2 4 /\ Below w.heap.size w (set4 w6 (adP π b 0 T).1 (adP π b 0 T).2 S) /\ (set4 w6 (adP π b 0 T).1 (adP π b 0 T).2 S).heap[w.heap.size + 1 + 1]? = some zTree /\ TBx (set4 w6 (adP π b 0 T).1 (adP π b 0 T).2 S) b 0 (setAt π T S) /\ TAt (set4 w6 (adP π b 0 T).1 (adP π b 0 T).2 S) (setAt π T S) /\ ∀ a ∈ adsL (kidsA (setAt π T S)), w.heap.size + 3 <= a.1) := h6
 clear h6 H5 CS
 refine hK.out _ _ (SX.both trivial H6.out.1.st) ?_
 clear hK K'
 (try simp only [Act.put, List.setIfInBounds_toArray, List.set_cons_zero, List.set_cons_succ])
 refine wpAnyX_take (m := 5) (i := 4) (v := ?_) rfl (by kernel_rfl) (by kernel_rfl) (by decide) (by decide +kernel) (by decide +kernel) (fun _ _ _ h => h) (by kernel_rfl) (Or.inl ⟨by rfl, ?_⟩) (SX.both trivial H6.out.1.st) ?_
 rotate_left
 ·(intro w hSw; clear hSw; go_simp; try (with_reducible rfl))
 (try simp only [Act.put, List.setIfInBounds_toArray, List.set_cons_zero, List.set_cons_succ])
 refine wpAnyX_one (j := 5) (by decide +kernel) rfl (fun K' hK => ?_)
 refine step_storeO rfl 26 (.tmp 19) (.tmp 18) rfl (adP π b 0 T).1 (adP π b 0 T).2 #[.int .i64 S.prod, .int .i64 S.kind, .string S.tx, .slice S.ka S.kids.length S.kc] rfl rfl H6.out.2.2.1 (by kernel_rfl) (by kernel_rfl) ?_
 have H7 : Hid (samV (setAt π t s) (setAt π T S) /\ Below w.heap.size w (set4 w6 (adP π b 0 T).1 (adP π b 0 T).2 S) /\ (set4 w6 (adP π b 0 T).1 (adP π b 0 T).2 S).heap[w.heap.size + 1 + 1]? = some zTree /\ TBx (set4 w6 (adP π b 0 T).1 (adP π b 0 T).2 S) b 0 (setAt π T S) /\ TAt (set4 w6 (adP π b 0 T).1 (adP π b 0 T).2 S) (setAt π T S) /\ ∀ a ∈ adsL (kidsA (setAt π T S)), w.heap.size + 3 <= a.1) := ⟨H6.out.2.1, H6.out.2.2.2⟩
 have e7 : w6.setCells (adP π b 0 T).1 (adP π b 0 T).2 (#[Value.int .i64 S.prod, .int .i64 S.kind, .string S.tx, .slice S.ka S.kids.length S.kc] : Array Value).toList = set4 w6 (adP π b 0 T).1 (adP π b 0 T).2 S := rfl
 rw [e7]
 clear e7 H6 SM
 generalize set4 w6 (adP π b 0 T).1 (adP π b 0 T).2 S = w7 at *
 generalize setAt π T S = V at *
 refine hK.out _ _ (SX.one trivial (by kernel_rfl)) ?_
 clear hK K'
 (try simp only [Act.put, List.setIfInBounds_toArray, List.set_cons_zero, List.set_cons_succ])
 refine wpAnyX_done (by decide +kernel) ?_
 have c0 := H7.out.2.2.2.1.c0
 have c1 := H7.out.2.2.2.1.c1
 have c2 := H7.out.2.2.2.1.c2
 have c3 := H7.out.2.2.2.1.c3
 simp only [Nat.zero_add] at c1 c2 c3
 obtain ⟨d0, d1, d2, d3, f0, f1, f2, f3⟩ := z_cells H7.out.2.2.1
 have FIN : Hid (samV (setAt π t s) V /\ TBx (set4 w7 (w.heap.size + 1 + 1) 0 V) (w.heap.size + 1 + 1) 0 V /\ Below w.heap.size w (set4 w7 (w.heap.size + 1 + 1) 0 V) /\ TAt (set4 w7 (w.heap.size + 1 + 1) 0 V) V) :=
  ⟨H7.out.1, set4_tbx V d0 d1 d2 d3 (lt_of_block H7.out.2.2.1), set4_below H7.out.2.1 0 V (by omega), keep_at V 0 0 H7.out.2.2.2.2.1 fun a ha => ⟨by rw [set4_size]; exact kids_lt H7.out.2.2.2.2.1 ha, fun j _ => World.cell?_of_block (set4_other _ _ _ _ _ (show a.1 ≠ w.heap.size + 1 + 1 by have := H7.out.2.2.2.2.2 a ha; omega))⟩⟩
 clear H7
 go_wp2
 change bodyPost _ _ _ _ _ (set4 w7 (w.heap.size + 1 + 1) 0 V)
 generalize set4 w7 (w.heap.size + 1 + 1) 0 V = w8 at *
 have x0 := FIN.out.2.1.c0
 have x1 := FIN.out.2.1.c1
 have x2 := FIN.out.2.1.c2
 have x3 := FIN.out.2.1.c3
 simp only [Nat.zero_add] at x1 x2 x3
 refine bodyPost_ret (v := .tuple #[V.val, .int .i64 0]) (by simp [results, Try.results8, go_sem, x0, x1, x2, x3]) rfl ?_
 exact ⟨V, rfl, FIN.out.2.2.1, FIN.out.1, FIN.out.2.2.2⟩
end Go.Proofs.Ytcihjkmaadkfcaa
