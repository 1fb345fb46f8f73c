import Derived.Test.YtobhemaikomdaaaGreatDoorPTK1ToTDp3
namespace Go.Proofs.YtobhemaikomdaaaGreatDoor
set_option linter.unusedVariables false
open Go.RowKit
structure DpG (w wr : World) (gb : Nat) (G : GV) (t : TV) (W : World) : Prop where
 bel : Below w.heap.size w W
 bw : Below wr.heap.size wr W
 gg : W.heap[gb]? = some (gBox G)
 tb : W.heap[gb + 1]? = some (tBox t)
theorem DpG.later {w wr : World} {gb : Nat} {G : GV} {t : TV} {W W' : World} (h : DpG w wr gb G t W) (hb : Below W.heap.size W W') : DpG w wr gb G t W' := ⟨h.bel.trans (hb.mono h.bel.size), h.bw.trans (hb.mono h.bw.size), (hb.block _ (lt_of_block h.gg)).trans h.gg, (hb.block _ (lt_of_block h.tb)).trans h.tb⟩
def dpQ (gb : Nat) (G : GV) (t : TV) (W : World) : Prop := W.heap[gb]? = some (gBox G) /\ W.heap[gb + 1]? = some (tBox t)
theorem DpG.c {w wr : World} {gb : Nat} {G : GV} {t : TV} {W : World} (h : DpG w wr gb G t W) : dpQ gb G t W := ⟨h.gg, h.tb⟩
theorem dp_fin {w wr : World} {gb b : Nat} {G : GV} {t T : TV} {W : World} (h : DpG w wr gb G t W) (hb : wr.heap.size <= b) (hz : W.heap[b]? = some zTree) (hg : gb + 1 < wr.heap.size) (hw : w.heap.size <= wr.heap.size) (ht : TAt W T) (hn : ∀ a ∈ adsL (kidsA T), a.1 ≠ b) : DpG w wr gb G t (set4 W b 0 T) /\ (set4 W b 0 T).heap[b]? = some (tBox T) /\ TAt (set4 W b 0 T) T := by
 have ho : ∀ j, j ≠ b -> (set4 W b 0 T).heap[j]? = W.heap[j]? := fun j hj => set4_other _ _ _ _ _ hj
 refine ⟨⟨set4_below h.bel 0 _ (by omega), set4_below h.bw 0 _ hb, (ho _ (by omega)).trans h.gg, (ho _ (by omega)).trans h.tb⟩, setCs_fourB hz, ?_⟩
 refine keep_at T 0 0 ht fun a ha => ?_
 have e := ho a.1 (hn a ha)
 have hal := kids_lt ht ha
 exact ⟨by rw [set4_size]; exact hal, fun j _ => World.cell?_of_block e⟩
theorem run_fl {o : Oper} {a : Act} {t0 t1 t2 : TypeId} {v0 v1 v2 : Value} {x0 x1 x2 : Operand} (hop : o.op = Op.call { callee := Callee.value (Operand.func 8), args := #[x0, x1, x2], argTypes := #[t0, t1, t2] }) (h0 : a.eval x0 = v0) (h1 : a.eval x1 = v1) (h2 : a.eval x2 = v2) (w : World) : (execOp a.eval o).run Tryz.prog w = .ok (.enter 8 #[v0, v1, v2]) w := by
 have hf : a.eval (Operand.func 8) = .func (.func 8) #[] #[] := rfl
 simp [execOp, hop, resolve, invoke, h0, h1, h2, hf, Deferred.ofValue]
structure DpT (b : Nat) (T : TV) (W : World) : Prop where
 bx : W.heap[b]? = some (tBox T)
 ta : TAt W T
theorem DpT.later {b : Nat} {T : TV} {W W' : World} (h : DpT b T W) (hb : Below W.heap.size W W') : DpT b T W' := ⟨(hb.block _ (lt_of_block h.bx)).trans h.bx, h.ta.later hb⟩
structure DpB (w wr : World) (gb : Nat) (G : GV) (t : TV) (b1 : Nat) (T1 : TV) (W : World) : Prop where
 g : DpG w wr gb G t W
 bx : W.heap[b1]? = some (tBox T1)
 ta : TAt W T1
theorem DpB.later {w wr : World} {gb : Nat} {G : GV} {t : TV} {b1 : Nat} {T1 : TV} {W W' : World} (h : DpB w wr gb G t b1 T1 W) (hb : Below W.heap.size W W') : DpB w wr gb G t b1 T1 W' := ⟨h.g.later hb, (hb.block _ (lt_of_block h.bx)).trans h.bx, h.ta.later hb⟩
theorem pickZ {P : Program} {ops : Array Oper} {Q : Exit -> Act -> World -> Prop} {md : Region.Mode} {S : Array Bool -> World -> Prop} {i j : Nat} {fuel : Nat} {listed : Array Bool} {a : Act} {w : World} {oi oj : Oper} (hr : Region.ready md ops listed = [i, j]) (hi : ops.toList[i]? = some oi) (hj : ops.toList[j]? = some oj)
  (h1 : ∀ K' : Act -> World -> Prop, Shut (∀ a' w', S (listed.setIfInBounds i true) w' -> wpAnyX P md ops Q S fuel (listed.setIfInBounds i true) a' w' -> K' a' w') -> if Region.wanted oi (yielded ops a.tmps) = true then Oper.wp P oi a w K' Q else K' (a.put oi.dst undef) w)
  (h2 : ∀ K' : Act -> World -> Prop, Shut (∀ a' w', S (listed.setIfInBounds j true) w' -> wpAnyX P md ops Q S fuel (listed.setIfInBounds j true) a' w' -> K' a' w') -> if Region.wanted oj (yielded ops a.tmps) = true then Oper.wp P oj a w K' Q else K' (a.put oj.dst undef) w) :
  wpAnyX P md ops Q S (fuel + 1) listed a w := by
 refine ⟨fun h0 => (by rw [hr] at h0; cases h0), fun k hk => ?_⟩
 rw [hr] at hk
 simp only [List.mem_cons, List.not_mem_nil, or_false] at hk
 rcases hk with rfl | rfl
 ·exact wpOp_step (by rw [<- Array.getElem?_toList]; exact hi) (fun K' hK => h1 K' (fun a' w' hS hW => hK a' w' ⟨hS, hW⟩))
 ·exact wpOp_step (by rw [<- Array.getElem?_toList]; exact hj) (fun K' hK => h2 K' (fun a' w' hS hW => hK a' w' ⟨hS, hW⟩))
theorem set4_alloc (w : World) (o : Obj) (b : Nat) (t : TV) (h : b < w.heap.size) : set4 (w.alloc o) b 0 t = (set4 w b 0 t).alloc o := by
 unfold set4
 rw [World.setCell_alloc_past _ _ _ _ h, World.setCell_alloc_past _ _ _ _ (by simpa [World.setCell] using h), World.setCell_alloc_past _ _ _ _ (by simpa [World.setCell] using h), World.setCell_alloc_past _ _ _ _ (by simpa [World.setCell] using h)]
set_option linter.unusedSimpArgs false in
set_option maxRecDepth 100000 in
set_option maxHeartbeats 8000000 in
theorem treesDeep_walk (w : World) (hmg : C.Magic w) : Calls Tryz.prog 3 #[] w fun e w' => e = .returned (.bool true) /\ Below w.heap.size w w' := by
 have CW : Hid (∀ w', Calls Tryz.prog 4 #[] w' fun e w'' => e = .returned (.bool true) /\ Below w'.heap.size w' w'') := fun w' => works_W w'
 have HM : Hid (C.Magic w) := hmg
 clear hmg
 go_enter Tryz.func3, Tryz.ntmps3
 go_upto_region 3 with (go_at_call 4; refine (CW.out _).mono ?_; rintro e w0 ⟨rfl, b0⟩; have B0 : Hid (Below w.heap.size w w0) := b0; clear b0)
 obtain ⟨m, hm⟩ : ∃ m, w0.heap.size = m := ⟨_, rfl⟩
 have CS := sample_W w0
 rw [hm] at CS
 have HC : Hid (Calls Tryz.prog 5 #[] w0 fun e w' => e = .returned (.tuple #[(sgG (m + 1 + 1 + 1 + 1)).val, (sgT (m9 m + 1) 1).val]) /\ SAk 1 m w0 w') := CS.mono fun e w' ⟨h1, h2⟩ => ⟨h1, h2.k⟩
 clear CS CW
 obtain ⟨G, hG⟩ : ∃ G, sgG (m + 1 + 1 + 1 + 1) = G := ⟨_, rfl⟩
 rw [hG] at HC
 go_upto_region 4 with (go_at_call 5; refine HC.out.mono ?_; rintro e w1 ⟨rfl, s1⟩; have S1 : Hid (SAk 1 m w0 w1) := s1; clear s1)
 obtain ⟨gb, hgb⟩ : ∃ gb, w1.heap.size = gb := ⟨_, rfl⟩
 have W0 : Hid (SWk 1 m w0 gb G ((w1.alloc (gBox G)).alloc (tBox (sgT (m9 m + 1) 1)))) := by
  have h1 := below_alloc w1 (gBox G)
  have h2 := below_alloc (w1.alloc (gBox G)) (tBox (sgT (m9 m + 1) 1))
  have h3 := h1.trans (h2.mono h1.size)
  refine ⟨S1.out.later h3, ?_, ?_, ?_⟩
  ·rw [<- hgb]
   exact (h2.block _ (by simp)).trans (heap_alloc_new _ _)
  ·have := heap_alloc_new (w1.alloc (gBox G)) (tBox (sgT (m9 m + 1) 1))
   rwa [show (w1.alloc (gBox G)).heap.size = gb + 1 by simp [hgb]] at this
  ·rw [<- hgb]; exact S1.out.sz
 refine wp_world (fun w' => SWk 1 m w0 gb G w') W0.out fun w2 k2 => ?_
 have K2 : Hid (SWk 1 m w0 gb G w2) := k2
 rw [hgb]
 have D1 : Hid (DpS w0 (m + 1 + 1 + 1 + 1) gb 0 (dp0 m) (set4 w2 (gb + 1) 0 (dp0 m))) := dp_start hm (by rw [hG]; exact k2)
 clear W0 hgb k2 S1 HC
 obtain ⟨x0, x1, x2, x3, x4⟩ := gbx_cells K2.out.gg
 obtain ⟨y0, y1, y2, y3'⟩ := tb_cells K2.out.tb
 have y3 : w2.cell? ⟨gb + 1, 3, none⟩ = some (.slice (some ⟨m9 m + 1 + 1, 0, none⟩) 2 2) := y3'
 clear y3'
 have z11 := K2.out.sa.bk 11 _ (by omega) (by omega) rfl
 have c4 : w2.cell? ⟨m9 m + 1 + 1, 4, none⟩ = some (.int .i64 1) := (cellq_any z11).trans rfl
 have c5 : w2.cell? ⟨m9 m + 1 + 1, 5, none⟩ = some (.int .i64 0) := (cellq_any z11).trans rfl
 have c6 : w2.cell? ⟨m9 m + 1 + 1, 6, none⟩ = some (.string ByteArray.empty) := (cellq_any z11).trans rfl
 have c7 : w2.cell? ⟨m9 m + 1 + 1, 7, none⟩ = some (.slice (some ⟨m9 m + 1, 0, none⟩) 1 1) := (cellq_any z11).trans rfl
 have zf : ∀ j, w2.frozen? ⟨gb + 1, j, none⟩ = false := fun j => by simp [World.frozen?, K2.out.tb]
 have zf0 := zf 0
 clear z11
 go_upto_region 5 with fail
 refine wp_world (fun w' => DpS w0 (m + 1 + 1 + 1 + 1) gb 0 (dp0 m) w') D1.out fun w3 k3 => ?_
 have D2 : Hid (∃ t, DpS w0 (m + 1 + 1 + 1 + 1) gb 0 t w3) := ⟨_, k3⟩
 clear D1 k3 K2 x0 x1 x2 x3 x4 y0 y1 y2 y3 c4 c5 c6 c7 zf zf0 hG
 obtain ⟨M, hM⟩ : ∃ M, m + 1 + 1 + 1 + 1 = M := ⟨_, rfl⟩
 rw [hM] at D2
 clear hM hm
 go_wp2
 go_loopw [3] (fun z wr => ∃ n t, n <= 100000 /\ z = .int .i64 (n : Nat) /\ DpS w0 M gb n t wr) (fun z _ => 100000 - (intOf z).toNat)
 case atStart => obtain ⟨t, ht⟩ := D2.out; exact ⟨0, t, Nat.zero_le _, rfl, ht⟩
 case round =>
  obtain ⟨n, t, hn, rfl, h0⟩ := hrel
  have H : Hid (DpS w0 M gb n t wr) := h0
  clear D2 h0
  by_cases hlt : n < 100000
  ·have zl := lt_of_block H.out.tb
   have TN := H.out.turn
   rw [set4_alloc _ _ _ _ zl] at TN
   have HT : Hid (DpS w0 M gb (n + 1) (dpT wr.heap.size t) ((set4 wr (gb + 1) 0 (dpT wr.heap.size t)).alloc (row8 t))) := TN
   clear TN
   obtain ⟨y0, y1, y2, y3⟩ := tb_cells H.out.tb
   have zf : ∀ j, wr.frozen? ⟨gb + 1, j, none⟩ = false := fun j => by simp [World.frozen?, H.out.tb]
   have zf0 := zf 0
   have zf1 := zf 1
   have zf2 := zf 2
   have zf3 := zf 3
   clear zf
   have q1 : decide ((n : Int) < 100000) = true := by simp; omega
   have HL : Hid (n < 100000) := hlt
   clear hlt hn
   go_upto_region 8 with fail
   clear q1
   go_upto_region 7 with fail
   refine wp_world (fun w' => DpS w0 M gb (n + 1) (dpT wr.heap.size t) w') HT.out fun wq kq => ?_
   have HT2 : Hid (DpS w0 M gb (n + 1) (dpT wr.heap.size t) wq) := kq
   clear kq HT y0 y1 y2 y3 zl zf0 zf1 zf2 zf3 H
   have ow : IntKind.i64.wrap ((n : Int) + 1) = ((n + 1 : Nat) : Int) := by
    have := HL.out
    exact IntWalk.i64_in _ ⟨by omega, by omega⟩
   go_wp2
   go_roundw
   case rel => exact ⟨n + 1, _, HL.out, by simp, HT2.out⟩
   case measure =>
    have := HL.out
    simp [intOf]
    omega
  ·have hn2 : n = 100000 := by omega
   have BW : Below w.heap.size w wr := B0.out.trans (H.out.bel.mono B0.out.size)
   have HC0 : DpC wr (sgG M) t := dp_calls H.out hn2 (C.Magic.later HM.out BW HM.out.lt)
   obtain ⟨G1, hG1⟩ : ∃ G1, sgG M = G1 := ⟨_, rfl⟩
   rw [hG1] at HC0
   have HC : Hid (DpC wr G1 t) := HC0
   have K0 : Hid (DpG w wr gb G1 t wr) := ⟨BW, Below.refl _ _, by rw [<- hG1]; exact H.out.gg, H.out.tb⟩
   have HGB0 : gb + 1 < wr.heap.size /\ w.heap.size <= wr.heap.size := ⟨lt_of_block H.out.tb, BW.size⟩
   have q1 : decide ((n : Int) < 100000) = false := by simp; omega
   clear hlt hn hn2 BW HC0 hG1 H HM B0
   go_upto_region 9 with fail
   clear q1
   obtain ⟨x0, x1, x2, x3, x4⟩ := gbx_cells K0.out.gg
   obtain ⟨y0, y1, y2, y3⟩ := tb_cells K0.out.tb
   go_upto_region 10 with (go_at_call 6; refine (HC.out.ck _ K0.out.bw).mono ?_; rintro e v1 ⟨rfl, bb⟩; have K1 : Hid (DpG w wr gb G1 t v1) := K0.out.later bb; clear bb x0 x1 x2 x3 x4 y0 y1 y2 y3)
   clear K0
   obtain ⟨y0, y1, y2, y3⟩ := tb_cells K1.out.tb
   go_upto_region 11 with (go_at_call 7; refine (HC.out.ms _ K1.out.bw).mono ?_; rintro e v2 ⟨rfl, bb⟩; have K2 : Hid (DpG w wr gb G1 t v2) := K1.out.later bb; clear bb y0 y1 y2 y3)
   clear K1
   have HGB : Hid (gb + 1 < wr.heap.size /\ w.heap.size <= wr.heap.size) := HGB0
   clear HGB0
   go_cut [9, 10, 11] from 51 to 60 (fun s9 s10 s11 wx => ∃ b T, s9 = .pointer (some ⟨b, 0, none⟩) /\ s10 = .int .i64 0 /\ s11 = .int .i64 0 /\ DpG w wr gb G1 t wx /\ wx.heap[b]? = some (tBox T) /\ TAt wx T /\ samV T t)
   case first =>
    refine wp_region_x (S := SX 11 (fun _ => True) (dpQ gb G1 t)) (by kernel_rfl) ?_
    refine wpX_world8 (fun w' => DpG w wr gb G1 t w') (K2.out.later (Below.refl _ _).drew) fun uz hz => ?_
    have Kuz : Hid (DpG w wr gb G1 t uz) := hz
    clear hz K2
    refine wpAnyX_takeBM (m := 11) (i := 0) (v := ?_) rfl (by kernel_rfl) (by kernel_rfl) (by decide) (by decide +kernel) (by decide +kernel) (fun _ _ _ h => h) (by kernel_rfl) (Or.inl ⟨by rfl, ?_⟩) (SX.both trivial Kuz.out.c) ?_
    rotate_left
    ·(intro w hSw; obtain ⟨x0, x1, x2, x3, x4⟩ := gbx_cells hSw.2.1; clear hSw; go_simp; try (with_reducible rfl))
    (try simp only [Act.put, List.setIfInBounds_toArray, List.set_cons_zero, List.set_cons_succ])
    refine wpAnyX_takeBM (m := 11) (i := 1) (v := ?_) rfl (by kernel_rfl) (by kernel_rfl) (by decide) (by decide +kernel) (by decide +kernel) (fun _ _ _ h => h) (by kernel_rfl) (Or.inl ⟨by rfl, ?_⟩) (SX.both trivial Kuz.out.c) ?_
    rotate_left
    ·(intro w hSw; obtain ⟨y0, y1, y2, y3⟩ := tb_cells hSw.2.2; clear hSw; go_simp; try (with_reducible rfl))
    (try simp only [Act.put, List.setIfInBounds_toArray, List.set_cons_zero, List.set_cons_succ])
    refine wpAnyX_takeBM (m := 11) (i := 3) (v := ?_) rfl (by kernel_rfl) (by kernel_rfl) (by decide) (by decide +kernel) (by decide +kernel) (fun _ _ _ h => h) (by kernel_rfl) (Or.inl ⟨by rfl, ?_⟩) (SX.both trivial Kuz.out.c) ?_
    rotate_left
    ·(intro w hSw; obtain ⟨y0, y1, y2, y3⟩ := tb_cells hSw.2.2; clear hSw; go_simp; try (with_reducible rfl))
    (try simp only [Act.put, List.setIfInBounds_toArray, List.set_cons_zero, List.set_cons_succ])
    refine pickZ (i := 2) (j := 10) (by decide +kernel) rfl rfl (fun K' hK => ?_) (fun K' hK => ?_)
    ·refine step_callX rfl 9 #[t.val] _ (run_le (v0 := t.val) rfl rfl _) (HC.out.le _ Kuz.out.bw) ?_
     rintro e ua ⟨ai, ci, rfl, p1, bb⟩
     have RIua : Hid (InRow ua ai (nds t)) := p1
     have Kua : Hid (DpG w wr gb G1 t ua) := Kuz.out.later bb
     clear p1 bb
     refine ⟨_, rfl, hK.out _ _ (SX.both trivial Kua.out.c) ?_⟩
     clear hK K'
     (try simp only [Act.put, List.setIfInBounds_toArray, List.set_cons_zero, List.set_cons_succ])
     refine pickZ (i := 4) (j := 10) (by decide +kernel) rfl rfl (fun K' hK => ?_) (fun K' hK => ?_)
     ·refine step_callX rfl 10 #[t.val] _ (run_yi (v0 := t.val) rfl rfl _) (HC.out.yi _ Kua.out.bw) ?_
      rintro e uc ⟨ak, ck, rfl, p1, bb⟩
      have RKuc : Hid (TkRow uc ak (lvs t)) := p1
      have RIuc : Hid (InRow uc ai (nds t)) := RIua.out.later bb
      have Kuc : Hid (DpG w wr gb G1 t uc) := Kua.out.later bb
      clear p1 bb
      refine ⟨_, rfl, hK.out _ _ (SX.both trivial Kuc.out.c) ?_⟩
      clear hK K'
      (try simp only [Act.put, List.setIfInBounds_toArray, List.set_cons_zero, List.set_cons_succ])
      refine pickZ (i := 5) (j := 10) (by decide +kernel) rfl rfl (fun K' hK => ?_) (fun K' hK => ?_)
      ·refine step_callX rfl 8 #[G1.val, .slice ai (nds t).length ci, .slice ak (lvs t).length ck] _ (run_fl (v0 := G1.val) (v1 := .slice ai (nds t).length ci) (v2 := .slice ak (lvs t).length ck) rfl rfl rfl rfl _) (HC.out.fl ai ci ak ck _ Kuc.out.bw RIuc.out RKuc.out) ?_
       rintro e ue ⟨T, rfl, p1, p2, bb⟩
       have FTue : Hid (TAt ue T /\ samV T t /\ ∀ a ∈ adsL (kidsA T), a.1 < ue.heap.size) := ⟨p2.ta, p1, fun a ha => kids_lt p2.ta ha⟩
       clear p2
       have Kue : Hid (DpG w wr gb G1 t ue) := Kuc.out.later bb
       clear p1 bb
       refine ⟨_, rfl, hK.out _ _ (SX.both trivial Kue.out.c) ?_⟩
       clear hK K'
       (try simp only [Act.put, List.setIfInBounds_toArray, List.set_cons_zero, List.set_cons_succ])
       refine wpAnyX_takeBP (m := 11) (i := 6) (v := ?_) rfl (by kernel_rfl) (by decide) (by decide +kernel) (by decide +kernel) (fun _ _ _ h => h) (Or.inl ⟨by rfl, ?_⟩) (SX.both trivial Kue.out.c) ?_
       rotate_left
       ·(intro w hSw; skip; clear hSw; go_simp; try (with_reducible rfl))
       (try simp only [Act.put, List.setIfInBounds_toArray, List.set_cons_zero, List.set_cons_succ])
       refine wpAnyX_takeBP (m := 11) (i := 7) (v := ?_) rfl (by kernel_rfl) (by decide) (by decide +kernel) (by decide +kernel) (fun _ _ _ h => h) (Or.inl ⟨by rfl, ?_⟩) (SX.both trivial Kue.out.c) ?_
       rotate_left
       ·(intro w hSw; skip; clear hSw; go_simp; try (with_reducible rfl))
       (try simp only [Act.put, List.setIfInBounds_toArray, List.set_cons_zero, List.set_cons_succ])
       refine wpAnyX_takeBP (m := 11) (i := 8) (v := ?_) rfl (by kernel_rfl) (by decide) (by decide +kernel) (by decide +kernel) (fun _ _ _ h => h) (Or.inl ⟨by rfl, ?_⟩) (SX.both trivial Kue.out.c) ?_
       rotate_left
       ·(intro w hSw; skip; clear hSw; go_simp; try (with_reducible rfl))
       (try simp only [Act.put, List.setIfInBounds_toArray, List.set_cons_zero, List.set_cons_succ])
       refine wpAnyX_takeBP (m := 11) (i := 9) (v := ?_) rfl (by kernel_rfl) (by decide) (by decide +kernel) (by decide +kernel) (fun _ _ _ h => h) (Or.inl ⟨by rfl, ?_⟩) (SX.both trivial Kue.out.c) ?_
       rotate_left
       ·(intro w hSw; skip; clear hSw; go_simp; try (with_reducible rfl))
       (try simp only [Act.put, List.setIfInBounds_toArray, List.set_cons_zero, List.set_cons_succ])
       refine wpAnyX_one (j := 10) (by decide +kernel) rfl (fun K' hK => ?_)
       go_simp
       refine hK.out _ _ (SX.both trivial (Kue.out.later (below_alloc _ _)).c) ?_
       clear hK K'
       (try simp only [Act.put, List.setIfInBounds_toArray, List.set_cons_zero, List.set_cons_succ])
       obtain ⟨b, hb⟩ : ∃ b, ue.heap.size = b := ⟨_, rfl⟩
       rw [hb]
       refine wpX_world8 (fun w' => Below ue.heap.size ue w' /\ w'.heap[b]? = some zTree) ⟨below_alloc _ _, by rw [<- hb]; exact heap_alloc_new _ _⟩ fun ug hu => ?_
       have Kug : Hid (DpG w wr gb G1 t ug) := Kue.out.later hu.1
       have ZBug : Hid (ug.heap[b]? = some zTree /\ wr.heap.size <= b) := ⟨hu.2, by rw [<- hb]; exact Kue.out.bw.size⟩
       have FTug : Hid (TAt ug T /\ samV T t /\ ∀ a ∈ adsL (kidsA T), a.1 ≠ b) := ⟨FTue.out.1.later hu.1, FTue.out.2.1, fun a ha => by have q1 := FTue.out.2.2 a ha; omega⟩
       clear hu hb
       obtain ⟨d0, d1, d2, d3, f0, f1, f2, f3⟩ := z_cells ZBug.out.1
       have FIN : Hid (DpG w wr gb G1 t (set4 ug b 0 T) /\ (set4 ug b 0 T).heap[b]? = some (tBox T) /\ TAt (set4 ug b 0 T) T) := dp_fin Kug.out ZBug.out.2 ZBug.out.1 HGB.out.1 HGB.out.2 FTug.out.1 FTug.out.2.2
       refine wpAnyX_one (j := 11) (by decide +kernel) rfl (fun K' hK => ?_)
       go_simp
       refine hK.out _ _ (SX.one trivial (by kernel_rfl)) ?_
       clear hK K' d0 d1 d2 d3 f0 f1 f2 f3
       (try simp only [Act.put, List.setIfInBounds_toArray, List.set_cons_zero, List.set_cons_succ])
       refine wpAnyX_one (j := 12) (by decide +kernel) rfl (fun K' hK => ?_)
       go_simp
       refine hK.out _ _ (SX.one trivial (by kernel_rfl)) ?_
       clear hK K'
       (try simp only [Act.put, List.setIfInBounds_toArray, List.set_cons_zero, List.set_cons_succ])
       refine wpAnyX_one (j := 13) (by decide +kernel) rfl (fun K' hK => ?_)
       go_simp
       refine hK.out _ _ (SX.one trivial (by kernel_rfl)) ?_
       clear hK K'
       (try simp only [Act.put, List.setIfInBounds_toArray, List.set_cons_zero, List.set_cons_succ])
       refine wpAnyX_done (by decide +kernel) ?_
       go_wp2_with fail
       go_meet
       exact ⟨b, T, rfl, rfl, rfl, FIN.out.1, FIN.out.2.1, FIN.out.2.2, FTug.out.2.1⟩
      ·go_simp
       refine hK.out _ _ (SX.both trivial (Kuc.out.later (below_alloc _ _)).c) ?_
       clear hK K'
       (try simp only [Act.put, List.setIfInBounds_toArray, List.set_cons_zero, List.set_cons_succ])
       obtain ⟨b, hb⟩ : ∃ b, uc.heap.size = b := ⟨_, rfl⟩
       rw [hb]
       refine wpX_world8 (fun w' => Below uc.heap.size uc w' /\ w'.heap[b]? = some zTree) ⟨below_alloc _ _, by rw [<- hb]; exact heap_alloc_new _ _⟩ fun uf hu => ?_
       have Kuf : Hid (DpG w wr gb G1 t uf) := Kuc.out.later hu.1
       have ZBuf : Hid (uf.heap[b]? = some zTree /\ wr.heap.size <= b) := ⟨hu.2, by rw [<- hb]; exact Kuc.out.bw.size⟩
       have RIuf : Hid (InRow uf ai (nds t)) := RIuc.out.later hu.1
       have RKuf : Hid (TkRow uf ak (lvs t)) := RKuc.out.later hu.1
       clear hu hb
       refine wpAnyX_one (j := 5) (by decide +kernel) rfl (fun K' hK => ?_)
       refine step_callX rfl 8 #[G1.val, .slice ai (nds t).length ci, .slice ak (lvs t).length ck] _ (run_fl (v0 := G1.val) (v1 := .slice ai (nds t).length ci) (v2 := .slice ak (lvs t).length ck) rfl rfl rfl rfl _) (HC.out.fl ai ci ak ck _ Kuf.out.bw RIuf.out RKuf.out) ?_
       rintro e uh ⟨T, rfl, p1, p2, bb⟩
       have FTuh : Hid (TAt uh T /\ samV T t /\ ∀ a ∈ adsL (kidsA T), a.1 ≠ b) := ⟨p2.ta, p1, fun a ha => by have q1 := (p2.ty a ha).1; have q2 := lt_of_block ZBuf.out.1; omega⟩
       clear p2
       have Kuh : Hid (DpG w wr gb G1 t uh) := Kuf.out.later bb
       have ZBuh : Hid (uh.heap[b]? = some zTree /\ wr.heap.size <= b) := ⟨(bb.block _ (lt_of_block ZBuf.out.1)).trans ZBuf.out.1, ZBuf.out.2⟩
       clear p1 bb
       refine ⟨_, rfl, hK.out _ _ (SX.both trivial Kuh.out.c) ?_⟩
       clear hK K'
       (try simp only [Act.put, List.setIfInBounds_toArray, List.set_cons_zero, List.set_cons_succ])
       refine wpAnyX_takeBP (m := 11) (i := 6) (v := ?_) rfl (by kernel_rfl) (by decide) (by decide +kernel) (by decide +kernel) (fun _ _ _ h => h) (Or.inl ⟨by rfl, ?_⟩) (SX.both trivial Kuh.out.c) ?_
       rotate_left
       ·(intro w hSw; skip; clear hSw; go_simp; try (with_reducible rfl))
       (try simp only [Act.put, List.setIfInBounds_toArray, List.set_cons_zero, List.set_cons_succ])
       refine wpAnyX_takeBP (m := 11) (i := 7) (v := ?_) rfl (by kernel_rfl) (by decide) (by decide +kernel) (by decide +kernel) (fun _ _ _ h => h) (Or.inl ⟨by rfl, ?_⟩) (SX.both trivial Kuh.out.c) ?_
       rotate_left
       ·(intro w hSw; skip; clear hSw; go_simp; try (with_reducible rfl))
       (try simp only [Act.put, List.setIfInBounds_toArray, List.set_cons_zero, List.set_cons_succ])
       refine wpAnyX_takeBP (m := 11) (i := 8) (v := ?_) rfl (by kernel_rfl) (by decide) (by decide +kernel) (by decide +kernel) (fun _ _ _ h => h) (Or.inl ⟨by rfl, ?_⟩) (SX.both trivial Kuh.out.c) ?_
       rotate_left
       ·(intro w hSw; skip; clear hSw; go_simp; try (with_reducible rfl))
       (try simp only [Act.put, List.setIfInBounds_toArray, List.set_cons_zero, List.set_cons_succ])
       refine wpAnyX_takeBP (m := 11) (i := 9) (v := ?_) rfl (by kernel_rfl) (by decide) (by decide +kernel) (by decide +kernel) (fun _ _ _ h => h) (Or.inl ⟨by rfl, ?_⟩) (SX.both trivial Kuh.out.c) ?_
       rotate_left
       ·(intro w hSw; skip; clear hSw; go_simp; try (with_reducible rfl))
       (try simp only [Act.put, List.setIfInBounds_toArray, List.set_cons_zero, List.set_cons_succ])
       obtain ⟨d0, d1, d2, d3, f0, f1, f2, f3⟩ := z_cells ZBuh.out.1
       have FIN : Hid (DpG w wr gb G1 t (set4 uh b 0 T) /\ (set4 uh b 0 T).heap[b]? = some (tBox T) /\ TAt (set4 uh b 0 T) T) := dp_fin Kuh.out ZBuh.out.2 ZBuh.out.1 HGB.out.1 HGB.out.2 FTuh.out.1 FTuh.out.2.2
       refine wpAnyX_one (j := 11) (by decide +kernel) rfl (fun K' hK => ?_)
       go_simp
       refine hK.out _ _ (SX.one trivial (by kernel_rfl)) ?_
       clear hK K' d0 d1 d2 d3 f0 f1 f2 f3
       (try simp only [Act.put, List.setIfInBounds_toArray, List.set_cons_zero, List.set_cons_succ])
       refine wpAnyX_one (j := 12) (by decide +kernel) rfl (fun K' hK => ?_)
       go_simp
       refine hK.out _ _ (SX.one trivial (by kernel_rfl)) ?_
       clear hK K'
       (try simp only [Act.put, List.setIfInBounds_toArray, List.set_cons_zero, List.set_cons_succ])
       refine wpAnyX_one (j := 13) (by decide +kernel) rfl (fun K' hK => ?_)
       go_simp
       refine hK.out _ _ (SX.one trivial (by kernel_rfl)) ?_
       clear hK K'
       (try simp only [Act.put, List.setIfInBounds_toArray, List.set_cons_zero, List.set_cons_succ])
       refine wpAnyX_done (by decide +kernel) ?_
       go_wp2_with fail
       go_meet
       exact ⟨b, T, rfl, rfl, rfl, FIN.out.1, FIN.out.2.1, FIN.out.2.2, FTuh.out.2.1⟩
     ·go_simp
      refine hK.out _ _ (SX.both trivial (Kua.out.later (below_alloc _ _)).c) ?_
      clear hK K'
      (try simp only [Act.put, List.setIfInBounds_toArray, List.set_cons_zero, List.set_cons_succ])
      obtain ⟨b, hb⟩ : ∃ b, ua.heap.size = b := ⟨_, rfl⟩
      rw [hb]
      refine wpX_world8 (fun w' => Below ua.heap.size ua w' /\ w'.heap[b]? = some zTree) ⟨below_alloc _ _, by rw [<- hb]; exact heap_alloc_new _ _⟩ fun ud hu => ?_
      have Kud : Hid (DpG w wr gb G1 t ud) := Kua.out.later hu.1
      have ZBud : Hid (ud.heap[b]? = some zTree /\ wr.heap.size <= b) := ⟨hu.2, by rw [<- hb]; exact Kua.out.bw.size⟩
      have RIud : Hid (InRow ud ai (nds t)) := RIua.out.later hu.1
      clear hu hb
      refine wpAnyX_one (j := 4) (by decide +kernel) rfl (fun K' hK => ?_)
      refine step_callX rfl 10 #[t.val] _ (run_yi (v0 := t.val) rfl rfl _) (HC.out.yi _ Kud.out.bw) ?_
      rintro e ui ⟨ak, ck, rfl, p1, bb⟩
      have RKui : Hid (TkRow ui ak (lvs t)) := p1
      have RIui : Hid (InRow ui ai (nds t)) := RIud.out.later bb
      have Kui : Hid (DpG w wr gb G1 t ui) := Kud.out.later bb
      have ZBui : Hid (ui.heap[b]? = some zTree /\ wr.heap.size <= b) := ⟨(bb.block _ (lt_of_block ZBud.out.1)).trans ZBud.out.1, ZBud.out.2⟩
      clear p1 bb
      refine ⟨_, rfl, hK.out _ _ (SX.both trivial Kui.out.c) ?_⟩
      clear hK K'
      (try simp only [Act.put, List.setIfInBounds_toArray, List.set_cons_zero, List.set_cons_succ])
      refine wpAnyX_one (j := 5) (by decide +kernel) rfl (fun K' hK => ?_)
      refine step_callX rfl 8 #[G1.val, .slice ai (nds t).length ci, .slice ak (lvs t).length ck] _ (run_fl (v0 := G1.val) (v1 := .slice ai (nds t).length ci) (v2 := .slice ak (lvs t).length ck) rfl rfl rfl rfl _) (HC.out.fl ai ci ak ck _ Kui.out.bw RIui.out RKui.out) ?_
      rintro e uj ⟨T, rfl, p1, p2, bb⟩
      have FTuj : Hid (TAt uj T /\ samV T t /\ ∀ a ∈ adsL (kidsA T), a.1 ≠ b) := ⟨p2.ta, p1, fun a ha => by have q1 := (p2.ty a ha).1; have q2 := lt_of_block ZBui.out.1; omega⟩
      clear p2
      have Kuj : Hid (DpG w wr gb G1 t uj) := Kui.out.later bb
      have ZBuj : Hid (uj.heap[b]? = some zTree /\ wr.heap.size <= b) := ⟨(bb.block _ (lt_of_block ZBui.out.1)).trans ZBui.out.1, ZBui.out.2⟩
      clear p1 bb
      refine ⟨_, rfl, hK.out _ _ (SX.both trivial Kuj.out.c) ?_⟩
      clear hK K'
      (try simp only [Act.put, List.setIfInBounds_toArray, List.set_cons_zero, List.set_cons_succ])
      refine wpAnyX_takeBP (m := 11) (i := 6) (v := ?_) rfl (by kernel_rfl) (by decide) (by decide +kernel) (by decide +kernel) (fun _ _ _ h => h) (Or.inl ⟨by rfl, ?_⟩) (SX.both trivial Kuj.out.c) ?_
      rotate_left
      ·(intro w hSw; skip; clear hSw; go_simp; try (with_reducible rfl))
      (try simp only [Act.put, List.setIfInBounds_toArray, List.set_cons_zero, List.set_cons_succ])
      refine wpAnyX_takeBP (m := 11) (i := 7) (v := ?_) rfl (by kernel_rfl) (by decide) (by decide +kernel) (by decide +kernel) (fun _ _ _ h => h) (Or.inl ⟨by rfl, ?_⟩) (SX.both trivial Kuj.out.c) ?_
      rotate_left
      ·(intro w hSw; skip; clear hSw; go_simp; try (with_reducible rfl))
      (try simp only [Act.put, List.setIfInBounds_toArray, List.set_cons_zero, List.set_cons_succ])
      refine wpAnyX_takeBP (m := 11) (i := 8) (v := ?_) rfl (by kernel_rfl) (by decide) (by decide +kernel) (by decide +kernel) (fun _ _ _ h => h) (Or.inl ⟨by rfl, ?_⟩) (SX.both trivial Kuj.out.c) ?_
      rotate_left
      ·(intro w hSw; skip; clear hSw; go_simp; try (with_reducible rfl))
      (try simp only [Act.put, List.setIfInBounds_toArray, List.set_cons_zero, List.set_cons_succ])
      refine wpAnyX_takeBP (m := 11) (i := 9) (v := ?_) rfl (by kernel_rfl) (by decide) (by decide +kernel) (by decide +kernel) (fun _ _ _ h => h) (Or.inl ⟨by rfl, ?_⟩) (SX.both trivial Kuj.out.c) ?_
      rotate_left
      ·(intro w hSw; skip; clear hSw; go_simp; try (with_reducible rfl))
      (try simp only [Act.put, List.setIfInBounds_toArray, List.set_cons_zero, List.set_cons_succ])
      obtain ⟨d0, d1, d2, d3, f0, f1, f2, f3⟩ := z_cells ZBuj.out.1
      have FIN : Hid (DpG w wr gb G1 t (set4 uj b 0 T) /\ (set4 uj b 0 T).heap[b]? = some (tBox T) /\ TAt (set4 uj b 0 T) T) := dp_fin Kuj.out ZBuj.out.2 ZBuj.out.1 HGB.out.1 HGB.out.2 FTuj.out.1 FTuj.out.2.2
      refine wpAnyX_one (j := 11) (by decide +kernel) rfl (fun K' hK => ?_)
      go_simp
      refine hK.out _ _ (SX.one trivial (by kernel_rfl)) ?_
      clear hK K' d0 d1 d2 d3 f0 f1 f2 f3
      (try simp only [Act.put, List.setIfInBounds_toArray, List.set_cons_zero, List.set_cons_succ])
      refine wpAnyX_one (j := 12) (by decide +kernel) rfl (fun K' hK => ?_)
      go_simp
      refine hK.out _ _ (SX.one trivial (by kernel_rfl)) ?_
      clear hK K'
      (try simp only [Act.put, List.setIfInBounds_toArray, List.set_cons_zero, List.set_cons_succ])
      refine wpAnyX_one (j := 13) (by decide +kernel) rfl (fun K' hK => ?_)
      go_simp
      refine hK.out _ _ (SX.one trivial (by kernel_rfl)) ?_
      clear hK K'
      (try simp only [Act.put, List.setIfInBounds_toArray, List.set_cons_zero, List.set_cons_succ])
      refine wpAnyX_done (by decide +kernel) ?_
      go_wp2_with fail
      go_meet
      exact ⟨b, T, rfl, rfl, rfl, FIN.out.1, FIN.out.2.1, FIN.out.2.2, FTuj.out.2.1⟩
    ·go_simp
     refine hK.out _ _ (SX.both trivial (Kuz.out.later (below_alloc _ _)).c) ?_
     clear hK K'
     (try simp only [Act.put, List.setIfInBounds_toArray, List.set_cons_zero, List.set_cons_succ])
     obtain ⟨b, hb⟩ : ∃ b, uz.heap.size = b := ⟨_, rfl⟩
     rw [hb]
     refine wpX_world8 (fun w' => Below uz.heap.size uz w' /\ w'.heap[b]? = some zTree) ⟨below_alloc _ _, by rw [<- hb]; exact heap_alloc_new _ _⟩ fun ub hu => ?_
     have Kub : Hid (DpG w wr gb G1 t ub) := Kuz.out.later hu.1
     have ZBub : Hid (ub.heap[b]? = some zTree /\ wr.heap.size <= b) := ⟨hu.2, by rw [<- hb]; exact Kuz.out.bw.size⟩
     clear hu hb
     refine wpAnyX_one (j := 2) (by decide +kernel) rfl (fun K' hK => ?_)
     refine step_callX rfl 9 #[t.val] _ (run_le (v0 := t.val) rfl rfl _) (HC.out.le _ Kub.out.bw) ?_
     rintro e uk ⟨ai, ci, rfl, p1, bb⟩
     have RIuk : Hid (InRow uk ai (nds t)) := p1
     have Kuk : Hid (DpG w wr gb G1 t uk) := Kub.out.later bb
     have ZBuk : Hid (uk.heap[b]? = some zTree /\ wr.heap.size <= b) := ⟨(bb.block _ (lt_of_block ZBub.out.1)).trans ZBub.out.1, ZBub.out.2⟩
     clear p1 bb
     refine ⟨_, rfl, hK.out _ _ (SX.both trivial Kuk.out.c) ?_⟩
     clear hK K'
     (try simp only [Act.put, List.setIfInBounds_toArray, List.set_cons_zero, List.set_cons_succ])
     refine wpAnyX_one (j := 4) (by decide +kernel) rfl (fun K' hK => ?_)
     refine step_callX rfl 10 #[t.val] _ (run_yi (v0 := t.val) rfl rfl _) (HC.out.yi _ Kuk.out.bw) ?_
     rintro e ul ⟨ak, ck, rfl, p1, bb⟩
     have RKul : Hid (TkRow ul ak (lvs t)) := p1
     have RIul : Hid (InRow ul ai (nds t)) := RIuk.out.later bb
     have Kul : Hid (DpG w wr gb G1 t ul) := Kuk.out.later bb
     have ZBul : Hid (ul.heap[b]? = some zTree /\ wr.heap.size <= b) := ⟨(bb.block _ (lt_of_block ZBuk.out.1)).trans ZBuk.out.1, ZBuk.out.2⟩
     clear p1 bb
     refine ⟨_, rfl, hK.out _ _ (SX.both trivial Kul.out.c) ?_⟩
     clear hK K'
     (try simp only [Act.put, List.setIfInBounds_toArray, List.set_cons_zero, List.set_cons_succ])
     refine wpAnyX_one (j := 5) (by decide +kernel) rfl (fun K' hK => ?_)
     refine step_callX rfl 8 #[G1.val, .slice ai (nds t).length ci, .slice ak (lvs t).length ck] _ (run_fl (v0 := G1.val) (v1 := .slice ai (nds t).length ci) (v2 := .slice ak (lvs t).length ck) rfl rfl rfl rfl _) (HC.out.fl ai ci ak ck _ Kul.out.bw RIul.out RKul.out) ?_
     rintro e um ⟨T, rfl, p1, p2, bb⟩
     have FTum : Hid (TAt um T /\ samV T t /\ ∀ a ∈ adsL (kidsA T), a.1 ≠ b) := ⟨p2.ta, p1, fun a ha => by have q1 := (p2.ty a ha).1; have q2 := lt_of_block ZBul.out.1; omega⟩
     clear p2
     have Kum : Hid (DpG w wr gb G1 t um) := Kul.out.later bb
     have ZBum : Hid (um.heap[b]? = some zTree /\ wr.heap.size <= b) := ⟨(bb.block _ (lt_of_block ZBul.out.1)).trans ZBul.out.1, ZBul.out.2⟩
     clear p1 bb
     refine ⟨_, rfl, hK.out _ _ (SX.both trivial Kum.out.c) ?_⟩
     clear hK K'
     (try simp only [Act.put, List.setIfInBounds_toArray, List.set_cons_zero, List.set_cons_succ])
     refine wpAnyX_takeBP (m := 11) (i := 6) (v := ?_) rfl (by kernel_rfl) (by decide) (by decide +kernel) (by decide +kernel) (fun _ _ _ h => h) (Or.inl ⟨by rfl, ?_⟩) (SX.both trivial Kum.out.c) ?_
     rotate_left
     ·(intro w hSw; skip; clear hSw; go_simp; try (with_reducible rfl))
     (try simp only [Act.put, List.setIfInBounds_toArray, List.set_cons_zero, List.set_cons_succ])
     refine wpAnyX_takeBP (m := 11) (i := 7) (v := ?_) rfl (by kernel_rfl) (by decide) (by decide +kernel) (by decide +kernel) (fun _ _ _ h => h) (Or.inl ⟨by rfl, ?_⟩) (SX.both trivial Kum.out.c) ?_
     rotate_left
     ·(intro w hSw; skip; clear hSw; go_simp; try (with_reducible rfl))
     (try simp only [Act.put, List.setIfInBounds_toArray, List.set_cons_zero, List.set_cons_succ])
     refine wpAnyX_takeBP (m := 11) (i := 8) (v := ?_) rfl (by kernel_rfl) (by decide) (by decide +kernel) (by decide +kernel) (fun _ _ _ h => h) (Or.inl ⟨by rfl, ?_⟩) (SX.both trivial Kum.out.c) ?_
     rotate_left
     ·(intro w hSw; skip; clear hSw; go_simp; try (with_reducible rfl))
     (try simp only [Act.put, List.setIfInBounds_toArray, List.set_cons_zero, List.set_cons_succ])
     refine wpAnyX_takeBP (m := 11) (i := 9) (v := ?_) rfl (by kernel_rfl) (by decide) (by decide +kernel) (by decide +kernel) (fun _ _ _ h => h) (Or.inl ⟨by rfl, ?_⟩) (SX.both trivial Kum.out.c) ?_
     rotate_left
     ·(intro w hSw; skip; clear hSw; go_simp; try (with_reducible rfl))
     (try simp only [Act.put, List.setIfInBounds_toArray, List.set_cons_zero, List.set_cons_succ])
     obtain ⟨d0, d1, d2, d3, f0, f1, f2, f3⟩ := z_cells ZBum.out.1
     have FIN : Hid (DpG w wr gb G1 t (set4 um b 0 T) /\ (set4 um b 0 T).heap[b]? = some (tBox T) /\ TAt (set4 um b 0 T) T) := dp_fin Kum.out ZBum.out.2 ZBum.out.1 HGB.out.1 HGB.out.2 FTum.out.1 FTum.out.2.2
     refine wpAnyX_one (j := 11) (by decide +kernel) rfl (fun K' hK => ?_)
     go_simp
     refine hK.out _ _ (SX.one trivial (by kernel_rfl)) ?_
     clear hK K' d0 d1 d2 d3 f0 f1 f2 f3
     (try simp only [Act.put, List.setIfInBounds_toArray, List.set_cons_zero, List.set_cons_succ])
     refine wpAnyX_one (j := 12) (by decide +kernel) rfl (fun K' hK => ?_)
     go_simp
     refine hK.out _ _ (SX.one trivial (by kernel_rfl)) ?_
     clear hK K'
     (try simp only [Act.put, List.setIfInBounds_toArray, List.set_cons_zero, List.set_cons_succ])
     refine wpAnyX_one (j := 13) (by decide +kernel) rfl (fun K' hK => ?_)
     go_simp
     refine hK.out _ _ (SX.one trivial (by kernel_rfl)) ?_
     clear hK K'
     (try simp only [Act.put, List.setIfInBounds_toArray, List.set_cons_zero, List.set_cons_succ])
     refine wpAnyX_done (by decide +kernel) ?_
     go_wp2_with fail
     go_meet
     exact ⟨b, T, rfl, rfl, rfl, FIN.out.1, FIN.out.2.1, FIN.out.2.2, FTum.out.2.1⟩
   case rest =>
    obtain ⟨b1, T1, rfl, rfl, rfl, h1, h2, h3, h4⟩ := hcut
    have C0 : Hid (DpB w wr gb G1 t b1 T1 wc) := ⟨h1, h2, h3⟩
    have SM1 : Hid (samV T1 t) := h4
    clear h1 h2 h3 h4 K2 HGB
    obtain ⟨xs, hxs⟩ : ∃ xs, C.frame 3 (encT t) = xs := ⟨_, rfl⟩
    have CE := HC.out.en
    have CD := HC.out.de
    rw [hxs] at CE CD
    have CEn : Hid (∀ w', Below wr.heap.size wr w' -> Calls Tryz.prog 11 #[t.val] w' fun e w'' => ∃ a c, e = .returned (.tuple #[.slice a xs.length c, .int .i64 0]) /\ C.RowAt w'' a xs /\ xs.length <= c /\ Below w'.heap.size w' w'') := CE
    have CDe : Hid (∀ a c w', Below wr.heap.size wr w' -> C.RowAt w' a xs -> xs.length <= c -> Calls Tryz.prog 12 #[.slice a xs.length c] w' fun e w'' => ∃ T : TV, e = .returned (.tuple #[T.val, .int .i64 0, .int .i64 0]) /\ samV T t /\ TAt w'' T /\ Below w'.heap.size w' w'') := CD
    clear CE CD hxs
    obtain ⟨y0, y1, y2, y3⟩ := tb_cells C0.out.g.tb
    go_upto_region 13 with (go_at_call 11; refine (CEn.out _ C0.out.g.bw).mono ?_; rintro e v3 ⟨ea, ec, rfl, p5, p6, bb⟩; have C1 : Hid (DpB w wr gb G1 t b1 T1 v3 /\ C.RowAt v3 ea xs /\ xs.length <= ec) := ⟨C0.out.later bb, p5, p6⟩; clear p5 p6 bb y0 y1 y2 y3)
    clear C0 CEn
    go_upto_region 14 with (go_at_call 12; refine (CDe.out ea ec _ C1.out.1.g.bw C1.out.2.1 C1.out.2.2).mono ?_; rintro e v4 ⟨T2, rfl, p5, p6, bb⟩; have C2 : Hid (DpB w wr gb G1 t b1 T1 v4 /\ TAt v4 T2) := ⟨C1.out.1.later bb, p6⟩; have SM2 : Hid (samV T2 t) := p5; clear p5 p6 bb)
    clear C1 CDe
    refine wp_world (fun w' => ∃ b, b = v4.heap.size /\ DpB w wr gb G1 t b1 T1 w' /\ w'.heap[b]? = some (tBox T2) /\ TAt w' T2) ⟨_, rfl, C2.out.1.later (below_alloc _ _), heap_alloc_new _ _, C2.out.2.later (below_alloc _ _)⟩ fun v5 hv => ?_
    obtain ⟨b2, hb2, hs⟩ := hv
    rw [<- hb2]
    have C3 : Hid (DpB w wr gb G1 t b1 T1 v5 /\ DpT b2 T2 v5) := ⟨hs.1, hs.2.1, hs.2.2⟩
    clear hb2 hs C2
    obtain ⟨y0, y1, y2, y3⟩ := tb_cells C3.out.1.g.tb
    go_upto_region 15 with (go_at_call 13; refine (HC.out.at_ _ C3.out.1.g.bw).mono ?_; rintro e v6 ⟨T3, rfl, p5, bb⟩; have C4 : Hid (DpB w wr gb G1 t b1 T1 v6 /\ DpT b2 T2 v6) := ⟨C3.out.1.later bb, C3.out.2.later bb⟩; have P3 : Hid (T3.prod = 1) := p5; clear p5 bb y0 y1 y2 y3)
    clear C3
    refine wp_world (fun w' => ∃ b, b = v6.heap.size /\ DpB w wr gb G1 t b1 T1 w' /\ DpT b2 T2 w' /\ w'.heap[b]? = some (tBox T3)) ⟨_, rfl, C4.out.1.later (below_alloc _ _), C4.out.2.later (below_alloc _ _), heap_alloc_new _ _⟩ fun v7 hv => ?_
    obtain ⟨b3, hb3, hs⟩ := hv
    rw [<- hb3]
    have C5 : Hid (DpB w wr gb G1 t b1 T1 v7 /\ DpT b2 T2 v7 /\ v7.heap[b3]? = some (tBox T3)) := hs
    clear hb3 hs C4
    obtain ⟨x0, x1, x2, x3, x4⟩ := gbx_cells C5.out.1.g.gg
    obtain ⟨y0, y1, y2, y3⟩ := tb_cells C5.out.1.g.tb
    go_upto_region 16 with (go_at_call 14; refine (HC.out.pr _ C5.out.1.g.bw).mono ?_; rintro e v8 ⟨S, p5, rfl, bb⟩; have C6 : Hid (DpB w wr gb G1 t b1 T1 v8 /\ DpT b2 T2 v8 /\ v8.heap[b3]? = some (tBox T3)) := ⟨C5.out.1.later bb, C5.out.2.1.later bb, (bb.block _ (lt_of_block C5.out.2.2)).trans C5.out.2.2⟩; have PS : Hid (S.size = 600005) := p5; clear p5 bb x0 x1 x2 x3 x4 y0 y1 y2 y3)
    clear C5
    have m0 : v8.cell? ⟨b3, 0, none⟩ = some (.int .i64 1) := by
     rw [<- P3.out]
     exact (tb_cells C6.out.2.2).1
    have ps : (S.size : Int) = 600005 := by rw [PS.out]; rfl
    obtain ⟨sz, hsz⟩ : ∃ sz : Int, (S.size : Int) = sz := ⟨_, rfl⟩
    rw [hsz] at ps
    have g7 : (sz == 600005) = true := by rw [ps]; rfl
    obtain ⟨y0, y1, y2, y3⟩ := tb_cells C6.out.1.g.tb
    obtain ⟨d0, d1, d2, d3⟩ := tb_cells C6.out.1.bx
    obtain ⟨k0, k1, k2, k3⟩ := tb_cells C6.out.2.1.bx
    have CSa : Hid (∀ T w', Below wr.heap.size wr w' -> TAt w' T -> samV T t -> Calls Tryz.prog 15 #[T.val, t.val] w' fun e w'' => e = .returned (.bool true) /\ Below w'.heap.size w' w'') := HC.out.sm
    have CSb := CSa
    clear HC PS P3 ps
    go_wp2_with (first | (go_at_call 15; refine (CSa.out T1 _ C6.out.1.g.bw C6.out.1.ta SM1.out).mono ?_; rintro e v9 ⟨rfl, bb⟩; have C7 : Hid (DpB w wr gb G1 t b1 T1 v9 /\ DpT b2 T2 v9) := ⟨C6.out.1.later bb, C6.out.2.1.later bb⟩; clear bb y0 y1 y2 y3 d0 d1 d2 d3 k0 k1 k2 k3 CSa m0; obtain ⟨y0, y1, y2, y3⟩ := tb_cells C7.out.1.g.tb; obtain ⟨k0, k1, k2, k3⟩ := tb_cells C7.out.2.bx) | (go_at_call 15; refine (CSb.out T2 _ C7.out.1.g.bw C7.out.2.ta SM2.out).mono ?_; rintro e v10 ⟨rfl, bb⟩; have C8 : Hid (Below w.heap.size w v10) := (C7.out.1.later bb).g.bel; clear bb y0 y1 y2 y3 k0 k1 k2 k3 CSb))
    refine bodyPost_ret (v := .bool true) (by simp [results, Tryz.results3, go_sem]) rfl ?_
    exact ⟨rfl, C8.out⟩
end Go.Proofs.YtobhemaikomdaaaGreatDoor
