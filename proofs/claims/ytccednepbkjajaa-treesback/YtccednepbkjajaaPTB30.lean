import Derived.Test.YtccednepbkjajaaPTB29
import Derived.Test.YtccednepbkjajaaPTK1
import Derived.Test.YtccednepbkjajaaPTS4
namespace Go.Proofs.Ytccednepbkjajaa
set_option linter.unusedVariables false
open Go.RowKit
theorem nds_in {g : GV} (t : TV) : GdT g t -> ∀ n ∈ nds t, 0 <= n /\ n < g.ps.length := by
 induction t using TV.ind with
 | _ t ih =>
  intro h n hn
  have h1 := AllP.here h
  rw [nds_eq] at hn
  rcases List.mem_append.1 hn with hn | hn
  ·by_cases hp : t.prod = -1
   ·rw [if_pos hp] at hn; cases hn
   ·rw [if_neg hp] at hn
    obtain ⟨a, b, -⟩ := gd_node h1 hp
    simp only [List.mem_cons, List.not_mem_nil, or_false] at hn
    rw [hn]; exact ⟨a, b⟩
  ·obtain ⟨k, hk, hn⟩ := List.mem_flatMap.1 hn
   exact ih k hk (AllP.kid h k hk) n hn
theorem ndr_in {g : GV} (t : TV) : GdT g t -> ∀ n ∈ ndr t, 0 <= n /\ n < g.ps.length := by
 induction t using TV.ind with
 | _ t ih =>
  intro h n hn
  have h1 := AllP.here h
  rw [ndr_eq] at hn
  rcases List.mem_append.1 hn with hn | hn
  ·obtain ⟨k, hk, hn⟩ := List.mem_flatMap.1 hn
   exact ih k hk (AllP.kid h k hk) n hn
  ·by_cases hp : t.prod = -1
   ·rw [if_pos hp] at hn; cases hn
   ·rw [if_neg hp] at hn
    obtain ⟨a, b, -⟩ := gd_node h1 hp
    simp only [List.mem_cons, List.not_mem_nil, or_false] at hn
    rw [hn]; exact ⟨a, b⟩
theorem hg_le (t : TV) : hgT t <= (nds t).length := by
 induction t using TV.ind with
 | _ t ih =>
  have e : ∀ l : List TV, (∀ k ∈ l, hgT k <= (nds k).length) -> hgL l <= (l.flatMap nds).length := fun l => by
   induction l with
   | nil => intro _; exact Nat.zero_le _
   | cons a l il =>
    intro h
    have h1 := h a (List.mem_cons_self ..)
    have h2 := il fun k hk => h k (List.mem_cons_of_mem _ hk)
    rw [List.flatMap_cons, List.length_append]
    show max (hgT a) (hgL l) <= _
    omega
  have h2 := e _ ih
  rw [hgT_eq, nds_eq, List.length_append]
  by_cases hp : t.prod = -1
  ·rw [if_pos hp]; omega
  ·rw [if_neg hp, if_neg hp]
   simp only [List.length_singleton]
   omega
theorem from_of {n : Nat} {l : List Int} {u : Option TV × Int × Int} (hl : l ≠ []) (h : ∀ x ∈ l, 0 <= x /\ x < n) : fromU (cpU 0 n l) u = u := by
 unfold fromU
 rw [cp_of hl h]
 exact if_neg (by simp)
structure BkS (w : World) (g : GV) (t : TV) (w' : World) : Prop where
 bel : Below w.heap.size w w'
 gb : w'.heap[w.heap.size]? = some (gBox g)
 tb : w'.heap[w.heap.size + 1]? = some (tBox t)
theorem BkS.later {w : World} {g : GV} {t : TV} {w' w'' : World} (h : BkS w g t w') (hb : Below w'.heap.size w' w'') : BkS w g t w'' := ⟨h.bel.trans (hb.mono h.bel.size), (hb.block _ (lt_of_block h.gb)).trans h.gb, (hb.block _ (lt_of_block h.tb)).trans h.tb⟩
structure BkT (w : World) (g : GV) (t : TV) (ai ar ak : Option Addr) (l r : List Int) (L : List (Int × ByteArray)) (b1 : Nat) (T1 : TV) (w' : World) : Prop where
 s : BkS w g t w'
 ri : InRow w' ai l
 rr : InRow w' ar r
 rk : TkRow w' ak L
 bx : w'.heap[b1]? = some (tBox T1)
 ta : TAt w' T1
theorem BkT.later {w : World} {g : GV} {t : TV} {ai ar ak : Option Addr} {l r : List Int} {L : List (Int × ByteArray)} {b1 : Nat} {T1 : TV} {w' w'' : World} (h : BkT w g t ai ar ak l r L b1 T1 w') (hb : Below w'.heap.size w' w'') : BkT w g t ai ar ak l r L b1 T1 w'' := ⟨h.s.later hb, h.ri.later hb, h.rr.later hb, h.rk.later hb, (hb.block _ (lt_of_block h.bx)).trans h.bx, h.ta.later hb⟩
theorem run_le {o : Oper} {a : Act} {t0 : TypeId} {v0 : Value} {x0 : Operand} (hop : o.op = Op.call { callee := Callee.value (Operand.func 7), args := #[x0], argTypes := #[t0] }) (h0 : a.eval x0 = v0) (w : World) : (execOp a.eval o).run Try.prog w = .ok (.enter 7 #[v0]) w := by
 have hf : a.eval (Operand.func 7) = .func (.func 7) #[] #[] := rfl
 simp [execOp, hop, resolve, invoke, h0, hf, Deferred.ofValue]
theorem run_ri {o : Oper} {a : Act} {t0 : TypeId} {v0 : Value} {x0 : Operand} (hop : o.op = Op.call { callee := Callee.value (Operand.func 8), args := #[x0], argTypes := #[t0] }) (h0 : a.eval x0 = v0) (w : World) : (execOp a.eval o).run Try.prog w = .ok (.enter 8 #[v0]) w := by
 have hf : a.eval (Operand.func 8) = .func (.func 8) #[] #[] := rfl
 simp [execOp, hop, resolve, invoke, h0, hf, Deferred.ofValue]
theorem run_yi {o : Oper} {a : Act} {t0 : TypeId} {v0 : Value} {x0 : Operand} (hop : o.op = Op.call { callee := Callee.value (Operand.func 9), args := #[x0], argTypes := #[t0] }) (h0 : a.eval x0 = v0) (w : World) : (execOp a.eval o).run Try.prog w = .ok (.enter 9 #[v0]) w := by
 have hf : a.eval (Operand.func 9) = .func (.func 9) #[] #[] := rfl
 simp [execOp, hop, resolve, invoke, h0, hf, Deferred.ofValue]
set_option linter.unusedSimpArgs false in
set_option maxRecDepth 100000 in
set_option maxHeartbeats 8000000 in
theorem treesBack_walk (g : GV) (t : TV) (w : World) (hg : GAt 1048576 w g) (hpc : g.ps.length <= g.pc) (ht : TAt w t) (hsz : (plT 0 t).length <= 1048576) :
  Calls Try.prog 3 #[g.val, t.val] w fun e w' => e = .returned (.bool true) /\ Below w.heap.size w w' := by
 obtain ⟨er, at_, hE⟩ : ∃ er at_, checkG g (checkF g.ts g.ns) = (er, at_) := ⟨_, _, rfl⟩
 have hgg : GAt 140737488355328 w g := hg.mono (by omega)
 have hz : szT t <= 1048576 := hsz
 have X0 : Hid (BkS w g t ((w.alloc (gBox g)).alloc (tBox t))) := by
  obtain ⟨a, b, c⟩ := two_allocT w (gBox g) (tBox t)
  exact ⟨a, b, c⟩
 have CW : Hid (∀ w', Calls Try.prog 5 #[] w' fun e w'' => e = .returned (.bool true) /\ Below w'.heap.size w' w'') := fun w' => works_W w'
 have CC0 := fun (w' : World) (h : Below w.heap.size w w') => Check_W g t w' (hgg.later h) hpc er at_ hE (ht.later h) (by omega)
 obtain ⟨x0, x1, x2, x3, x4⟩ := gbx_cells X0.out.gb
 obtain ⟨y0, y1, y2, y3⟩ := tb_cells X0.out.tb
 obtain ⟨e1, hr1⟩ : ∃ e1 : Int, (if er = 0 then (runU g (ckT g (0, 0) false t) 0).1 else er) = e1 := ⟨_, rfl⟩
 obtain ⟨e2, hr2⟩ : ∃ e2 : Int, (if er = 0 then ((runU g (ckT g (0, 0) false t) 0).2 : Int) else 0) = e2 := ⟨_, rfl⟩
 rw [hr1, hr2] at CC0
 have CC : Hid (∀ w', Below w.heap.size w w' -> Calls Try.prog 6 #[g.val, t.val] w' fun e w'' => e = .returned (.tuple #[.int .i64 e1, .int .i64 e2]) /\ Below w'.heap.size w' w'') := CC0
 clear CC0
 by_cases h1 : e1 = 0
 ·have her : er = 0 := by
   by_cases q : er = 0
   ·exact q
   ·rw [if_neg q] at hr1
    rw [hr1]; exact h1
  rw [if_pos her] at hr1 hr2
  rw [h1] at hr1
  have hgd : GdT g t := run_gd hr1
  rw [gd_run hgd] at hr2
  subst h1
  subst her
  have q1 : ((0 : Int) != 0) = false := by decide
  by_cases hp : t.prod = -1
  ·have q2 : t.prod < 0 := by rw [hp]; decide
   clear hg hpc ht hsz hE hgg hz hr1 hr2 hgd hp
   skip
   go_enter Try.func3, Try.ntmps3
   go_upto_region 4 with (first | (go_at_call 5; refine (CW.out _).mono ?_; rintro e w0 ⟨rfl, bb⟩; have S0 : Hid (BkS w g t w0) := X0.out.later bb; clear bb x0 x1 x2 x3 x4 y0 y1 y2 y3; obtain ⟨x0, x1, x2, x3, x4⟩ := gbx_cells S0.out.gb; obtain ⟨y0, y1, y2, y3⟩ := tb_cells S0.out.tb) | (go_at_call 6; refine (CC.out _ S0.out.bel).mono ?_; rintro e w1 ⟨rfl, bb⟩; have S1 : Hid (BkS w g t w1) := S0.out.later bb; clear bb x0 x1 x2 x3 x4 y0 y1 y2 y3; obtain ⟨x0, x1, x2, x3, x4⟩ := gbx_cells S1.out.gb; obtain ⟨y0, y1, y2, y3⟩ := tb_cells S1.out.tb))
   go_wp2
   refine bodyPost_ret (v := .bool true) (by simp [results, Try.results3, go_sem]) rfl ?_
   exact ⟨rfl, S1.out.bel⟩
  ·obtain ⟨n1, n2, n3, n4, n5⟩ := gd_node (AllP.here hgd) hp
   have q2 : decide (t.prod < 0) = false := by simp; omega
   have hcs := cln_sam t hgd
   have hnd : nds t = t.prod :: t.kids.flatMap nds := by rw [nds_eq, if_neg hp]; rfl
   have hnr : ndr t = t.kids.flatMap ndr ++ [t.prod] := by rw [ndr_eq, if_neg hp]
   have hzn := sz_nl t
   have hrl := ndr_len t
   have CL : Hid (∀ w', Below w.heap.size w w' -> Calls Try.prog 7 #[t.val] w' fun e w'' => ∃ a c, e = .returned (.slice a (nds t).length c) /\ InRow w'' a (nds t) /\ Below w'.heap.size w' w'') := fun w' h => (left_W t w' (ht.later h) (by omega)).mono fun e w'' ⟨vo, q1, q2, _, q4⟩ => by
    obtain ⟨ao, c', rfl, hr⟩ := ilo_row q2
    exact ⟨ao, c', q1, hr, q4⟩
   have CR : Hid (∀ w', Below w.heap.size w w' -> Calls Try.prog 8 #[t.val] w' fun e w'' => ∃ a c, e = .returned (.slice a (nds t).length c) /\ InRow w'' a (ndr t) /\ Below w'.heap.size w' w'') := fun w' h => (right_W t w' (ht.later h) (by omega)).mono fun e w'' ⟨vo, q1, q2, _, q4⟩ => by
    obtain ⟨ao, c', rfl, hr⟩ := ilo_row q2
    have e0 : (nodP (posT t)).length = (nds t).length := hrl
    rw [e0] at q1
    exact ⟨ao, c', q1, hr, q4⟩
   have CY : Hid (∀ w', Below w.heap.size w w' -> Calls Try.prog 9 #[t.val] w' fun e w'' => ∃ a c, e = .returned (.slice a (lvs t).length c) /\ TkRow w'' a (lvs t) /\ Below w'.heap.size w' w'') := fun w' h => (yield_W t w' (ht.later h) (by omega)).mono fun e w'' ⟨vo, q1, q2, _, q4⟩ => by
    obtain ⟨ao, c, rfl, hr⟩ := tkt_row q2
    exact ⟨ao, c, q1, hr, q4⟩
   have CM : Hid (∀ w', Below w.heap.size w w' -> Calls Try.prog 12 #[t.val] w' fun e w'' => e = .returned (.tuple #[.int .i64 (szT t : Int), .int .i64 ((lvs t).length : Int), .int .i64 (hgT t : Int)]) /\ Below w'.heap.size w' w'') := fun w' h => by
    have := measure_W t w' (ht.later h) (by omega)
    rw [msU_ht] at this
    have e0 : (leafT (preT t)).length = (lvs t).length := by unfold lvs; rw [List.length_map]
    rw [e0] at this
    exact this
   have CFL : Hid (∀ ai ci ak ck w', Below w.heap.size w w' -> InRow w' ai (nds t) -> TkRow w' ak (lvs t) -> Calls Try.prog 10 #[g.val, .slice ai (nds t).length ci, .slice ak (lvs t).length ck] w' fun e w'' => ∃ T, e = .returned (.tuple #[T.val, .int .i64 0, .int .i64 0]) /\ samV T t /\ TAt w'' T /\ Below w'.heap.size w' w'') := fun ai ci ak ck w' h hi hk => by
    have := FromLeft_W (pc := ci) (wc := ck) (hgg.later h) hpc 0 at_ hE hi hk (by omega) (by omega)
    rw [from_of (by rw [hnd]; simp) (nds_in t hgd), derive_of hgd hp] at this
    refine this.mono fun e w'' ⟨r1, r2⟩ => ?_
    obtain ⟨T, r3, r4, r5⟩ := ans_of r2
    exact ⟨T, r5, samV_trans _ _ _ r3 hcs, r4, r1⟩
   have CFR : Hid (∀ ai ci ak ck w', Below w.heap.size w w' -> InRow w' ai (ndr t) -> TkRow w' ak (lvs t) -> Calls Try.prog 11 #[g.val, .slice ai (nds t).length ci, .slice ak (lvs t).length ck] w' fun e w'' => ∃ T, e = .returned (.tuple #[T.val, .int .i64 0, .int .i64 0]) /\ samV T t /\ TAt w'' T /\ Below w'.heap.size w' w'') := fun ai ci ak ck w' h hi hk => by
    have := FromRight_W (pc := ci) (wc := ck) (hgg.later h) hpc 0 at_ hE hi hk (by omega) (by omega)
    obtain ⟨t', m1, m2⟩ := mir_of hgd hp
    rw [from_of (by rw [hnr]; simp) (ndr_in t hgd), m1, hrl] at this
    refine this.mono fun e w'' ⟨r1, r2⟩ => ?_
    obtain ⟨T, r3, r4, r5⟩ := ans_of r2
    exact ⟨T, r5, samV_trans _ _ _ r3 m2, r4, r1⟩
   have CS : Hid (∀ T w', Below w.heap.size w w' -> TAt w' T -> samV T t -> Calls Try.prog 13 #[T.val, t.val] w' fun e w'' => e = .returned (.bool true) /\ Below w'.heap.size w' w'') := fun T w' h hT hs => sameTree_W T t w' hT (ht.later h) hs (by rw [samV_size _ _ hs]; omega)
   have CRt : Hid (∀ w', Below w.heap.size w w' -> Calls Try.prog 14 #[g.val, t.val] w' fun e w'' => e = .returned (.tuple #[.agg #[.int .i64 2, .int .i64 (lfP g t.prod)], .int .i64 0]) /\ Below w'.heap.size w' w'') := fun w' h => by
    have := Root_W g t w' (hgg.later h) hpc 0 at_ hE
    have e0 : rgU g 0 t = (2, lfP g t.prod, 0) := by
     have er : rootU g t = (2, lfP g t.prod) := by
      unfold rootU
      rw [if_neg (fun q => hp q.1), if_pos ⟨n1, n2⟩]
      rfl
     unfold rgU rkU
     rw [if_neg (by simp), er, if_neg (by simp)]
    rw [e0] at this
    exact this
   have HG : Hid (∀ w', Below w.heap.size w w' -> GAt 140737488355328 w' g) := fun w' h => hgg.later h
   have HZ : Hid ((szT t : Int) = (nds t).length + (lvs t).length /\ (1 : Int) <= hgT t /\ (hgT t : Int) <= (nds t).length /\ szT t <= 1048576 /\ 0 < (nds t).length) := by
    have h2 := hg_le t
    have h3 : 1 <= hgT t := by rw [hgT_eq, if_neg hp]; omega
    have h4 : 0 < (nds t).length := by rw [hnd]; simp
    exact ⟨by omega, by omega, by omega, hz, h4⟩
   have HN : Hid ((nds t).getD 0 0 = t.prod /\ (ndr t).getD ((nds t).length - 1) 0 = t.prod /\ 0 <= t.prod /\ t.prod < g.ps.length) := by
    refine ⟨by rw [hnd]; rfl, ?_, n1, n2⟩
    rw [<- hrl, hnr]
    simp [List.getD]
   clear hg hpc ht hsz hE hgg hz hr1 hgd hp n1 n2 n3 n4 n5 hcs hnd hnr hzn hrl
   have hr2' : e2 = (szT t : Int) := by rw [<- hr2]
   clear hr2
   subst hr2'
   go_enter Try.func3, Try.ntmps3
   go_upto_region 4 with (first | (go_at_call 5; refine (CW.out _).mono ?_; rintro e w0 ⟨rfl, bb⟩; have S0 : Hid (BkS w g t w0) := X0.out.later bb; clear bb x0 x1 x2 x3 x4 y0 y1 y2 y3; obtain ⟨x0, x1, x2, x3, x4⟩ := gbx_cells S0.out.gb; obtain ⟨y0, y1, y2, y3⟩ := tb_cells S0.out.tb) | (go_at_call 6; refine (CC.out _ S0.out.bel).mono ?_; rintro e w1 ⟨rfl, bb⟩; have S1 : Hid (BkS w g t w1) := S0.out.later bb; clear bb x0 x1 x2 x3 x4 y0 y1 y2 y3; obtain ⟨x0, x1, x2, x3, x4⟩ := gbx_cells S1.out.gb; obtain ⟨y0, y1, y2, y3⟩ := tb_cells S1.out.tb))
   go_upto_region 6 with fail
   have SC : Hid (∀ w' : World, BkS w g t w' -> w'.heap[w.heap.size + 1]? = some (tBox t)) := fun w' h => h.tb
   refine wp_region_x (S := fun _ => (fun w' => w'.heap[w.heap.size + 1]? = some (tBox t))) (by kernel_rfl) ?_
   refine wpX_world8 (fun w' => BkS w g t w') (S1.out.later (Below.refl _ _).drew) fun wd hwd => ?_
   have HQ : Hid (BkS w g t wd) := hwd
   clear hwd x0 x1 x2 x3 x4 y0 y1 y2 y3
   refine wpAnyX_takeS8 (i := 0) (v := ?_) rfl (by kernel_rfl) (by decide +kernel) (by decide +kernel) (fun _ _ _ h => h) (Or.inl ⟨by rfl, ?_⟩) (SC.out _ HQ.out) ?_
   rotate_left
   ·(intro w hSw; obtain ⟨y0, y1, y2, y3⟩ := tb_cells hSw; clear hSw; go_simp; try (with_reducible rfl))
   (try simp only [Act.put, List.setIfInBounds_toArray, List.set_cons_zero, List.set_cons_succ])
   refine wpAnyX_takeS8 (i := 2) (v := ?_) rfl (by kernel_rfl) (by decide +kernel) (by decide +kernel) (fun _ _ _ h => h) (Or.inl ⟨by rfl, ?_⟩) (SC.out _ HQ.out) ?_
   rotate_left
   ·(intro w hSw; obtain ⟨y0, y1, y2, y3⟩ := tb_cells hSw; clear hSw; go_simp; try (with_reducible rfl))
   (try simp only [Act.put, List.setIfInBounds_toArray, List.set_cons_zero, List.set_cons_succ])
   refine wpAnyX_takeS8 (i := 4) (v := ?_) rfl (by kernel_rfl) (by decide +kernel) (by decide +kernel) (fun _ _ _ h => h) (Or.inl ⟨by rfl, ?_⟩) (SC.out _ HQ.out) ?_
   rotate_left
   ·(intro w hSw; obtain ⟨y0, y1, y2, y3⟩ := tb_cells hSw; clear hSw; go_simp; try (with_reducible rfl))
   (try simp only [Act.put, List.setIfInBounds_toArray, List.set_cons_zero, List.set_cons_succ])
   refine wpAnyX_one (j := 1) (by decide +kernel) rfl (fun K' hK => ?_)
   refine step_callX rfl 7 #[t.val] _ (run_le (v0 := t.val) rfl rfl _) (CL.out _ HQ.out.bel) ?_
   rintro e w2 ⟨ai, ci, rfl, q1, q2⟩
   have RI : Hid (InRow w2 ai (nds t)) := q1
   have HQ2 : Hid (BkS w g t w2) := HQ.out.later q2
   clear HQ q1 q2
   have HQ := HQ2
   clear HQ2
   refine ⟨_, rfl, hK.out _ _ (SC.out _ HQ.out) ?_⟩
   clear hK K'
   (try simp only [Act.put, List.setIfInBounds_toArray, List.set_cons_zero, List.set_cons_succ])
   refine wpAnyX_one (j := 3) (by decide +kernel) rfl (fun K' hK => ?_)
   refine step_callX rfl 8 #[t.val] _ (run_ri (v0 := t.val) rfl rfl _) (CR.out _ HQ.out.bel) ?_
   rintro e w2 ⟨ar, cr, rfl, q1, q2⟩
   have RR : Hid (InRow w2 ar (ndr t)) := q1
   have RI2 : Hid (InRow w2 ai (nds t)) := RI.out.later q2
   have HQ2 : Hid (BkS w g t w2) := HQ.out.later q2
   clear HQ q1 q2 RI
   have HQ := HQ2
   have RI := RI2
   clear HQ2 RI2
   refine ⟨_, rfl, hK.out _ _ (SC.out _ HQ.out) ?_⟩
   clear hK K'
   (try simp only [Act.put, List.setIfInBounds_toArray, List.set_cons_zero, List.set_cons_succ])
   refine wpAnyX_one (j := 5) (by decide +kernel) rfl (fun K' hK => ?_)
   refine step_callX rfl 9 #[t.val] _ (run_yi (v0 := t.val) rfl rfl _) (CY.out _ HQ.out.bel) ?_
   rintro e w2 ⟨ak, ck, rfl, q1, q2⟩
   have RK : Hid (TkRow w2 ak (lvs t)) := q1
   have RI2 : Hid (InRow w2 ai (nds t)) := RI.out.later q2
   have RR2 : Hid (InRow w2 ar (ndr t)) := RR.out.later q2
   have HQ2 : Hid (BkS w g t w2) := HQ.out.later q2
   clear HQ q1 q2 RI RR
   have HQ := HQ2
   have RI := RI2
   have RR := RR2
   clear HQ2 RI2 RR2
   refine ⟨_, rfl, hK.out _ _ (SC.out _ HQ.out) ?_⟩
   clear hK K'
   (try simp only [Act.put, List.setIfInBounds_toArray, List.set_cons_zero, List.set_cons_succ])
   refine wpAnyX_takeS8 (i := 6) (v := ?_) rfl (by kernel_rfl) (by decide +kernel) (by decide +kernel) (fun _ _ _ h => h) (Or.inl ⟨by rfl, ?_⟩) (SC.out _ HQ.out) ?_
   rotate_left
   ·(intro w hSw; skip; clear hSw; go_simp; try (with_reducible rfl))
   (try simp only [Act.put, List.setIfInBounds_toArray, List.set_cons_zero, List.set_cons_succ])
   refine wpAnyX_takeS8 (i := 7) (v := ?_) rfl (by kernel_rfl) (by decide +kernel) (by decide +kernel) (fun _ _ _ h => h) (Or.inl ⟨by rfl, ?_⟩) (SC.out _ HQ.out) ?_
   rotate_left
   ·(intro w hSw; skip; clear hSw; go_simp; try (with_reducible rfl))
   (try simp only [Act.put, List.setIfInBounds_toArray, List.set_cons_zero, List.set_cons_succ])
   refine wpAnyX_takeS8 (i := 8) (v := ?_) rfl (by kernel_rfl) (by decide +kernel) (by decide +kernel) (fun _ _ _ h => h) (Or.inl ⟨by rfl, ?_⟩) (SC.out _ HQ.out) ?_
   rotate_left
   ·(intro w hSw; skip; clear hSw; go_simp; try (with_reducible rfl))
   (try simp only [Act.put, List.setIfInBounds_toArray, List.set_cons_zero, List.set_cons_succ])
   refine wpAnyX_done (by decide +kernel) ?_
   obtain ⟨x0, x1, x2, x3, x4⟩ := gbx_cells HQ.out.gb
   clear SC S1
   obtain ⟨ln, hln⟩ : ∃ ln, (nds t).length = ln := ⟨_, rfl⟩
   obtain ⟨Ln, hLn⟩ : ∃ Ln, (lvs t).length = Ln := ⟨_, rfl⟩
   obtain ⟨hh, hhh⟩ : ∃ hh : Int, (hgT t : Int) = hh := ⟨_, rfl⟩
   obtain ⟨z, hzz⟩ : ∃ z : Int, (szT t : Int) = z := ⟨_, rfl⟩
   have HZ2 : Hid (z = (ln : Int) + (Ln : Int) /\ 1 <= hh /\ hh <= (ln : Int) /\ z <= 1048576 /\ 0 < ln) := by
    have q := HZ.out
    rw [hln, hLn, hhh, hzz] at q
    exact ⟨q.1, q.2.1, q.2.2.1, by have := q.2.2.2.1; omega, q.2.2.2.2⟩
   have HN2 : Hid ((nds t).getD 0 0 = t.prod /\ (ndr t).getD (ln - 1) 0 = t.prod /\ 0 <= t.prod /\ t.prod < g.ps.length) := by
    have q := HN.out
    rw [hln] at q
    exact q
   have HLN : Hid ((nds t).length = ln /\ (ndr t).length = ln) := ⟨hln, (ndr_len t).trans hln⟩
   rw [hln, hLn] at CFL CFR
   rw [hLn, hzz, hhh] at CM
   rw [hzz, hln, hLn]
   clear HZ HN hhh hzz hln hLn
   go_upto_region 8 with (go_at_call 10; refine (CFL.out ai ci ak ck _ HQ.out.bel RI.out RK.out).mono ?_; rintro e v1 ⟨T1, rfl, s1, ta1, bb⟩; have B1 : Hid (BkS w g t v1 /\ InRow v1 ai (nds t) /\ InRow v1 ar (ndr t) /\ TkRow v1 ak (lvs t) /\ TAt v1 T1 /\ samV T1 t) := ⟨HQ.out.later bb, RI.out.later bb, RR.out.later bb, RK.out.later bb, ta1, s1⟩; clear s1 ta1 bb x0 x1 x2 x3 x4)
   refine wp_world (fun w' => ∃ b, b = v1.heap.size /\ BkT w g t ai ar ak (nds t) (ndr t) (lvs t) b T1 w') ⟨_, rfl, B1.out.1.later (below_alloc _ _), B1.out.2.1.later (below_alloc _ _), B1.out.2.2.1.later (below_alloc _ _), B1.out.2.2.2.1.later (below_alloc _ _), heap_alloc_new _ _, B1.out.2.2.2.2.1.later (below_alloc _ _)⟩ fun u1 hu => ?_
   obtain ⟨b1, hb1, hs⟩ := hu
   rw [<- hb1]
   have S1 : Hid (BkT w g t ai ar ak (nds t) (ndr t) (lvs t) b1 T1 u1) := hs
   have SM1 : Hid (samV T1 t) := B1.out.2.2.2.2.2
   clear hs hb1 HQ RI RR RK B1 CFL
   obtain ⟨x0, x1, x2, x3, x4⟩ := gbx_cells S1.out.s.gb
   go_upto_region 9 with (go_at_call 11; refine (CFR.out ar cr ak ck _ S1.out.s.bel S1.out.rr S1.out.rk).mono ?_; rintro e v2 ⟨T2, rfl, s2, ta2, bb⟩; have B2 : Hid (BkT w g t ai ar ak (nds t) (ndr t) (lvs t) b1 T1 v2 /\ TAt v2 T2 /\ samV T2 t) := ⟨S1.out.later bb, ta2, s2⟩; clear s2 ta2 bb x0 x1 x2 x3 x4)
   refine wp_world (fun w' => ∃ b, b = v2.heap.size /\ BkT w g t ai ar ak (nds t) (ndr t) (lvs t) b1 T1 w' /\ w'.heap[b]? = some (tBox T2) /\ TAt w' T2) ⟨_, rfl, B2.out.1.later (below_alloc _ _), heap_alloc_new _ _, B2.out.2.1.later (below_alloc _ _)⟩ fun u2 hu => ?_
   obtain ⟨b2, hb2, hs⟩ := hu
   rw [<- hb2]
   have S2 : Hid (BkT w g t ai ar ak (nds t) (ndr t) (lvs t) b1 T1 u2 /\ u2.heap[b2]? = some (tBox T2) /\ TAt u2 T2) := hs
   have SM2 : Hid (samV T2 t) := B2.out.2.2
   clear hs hb2 S1 B2 CFR
   have LT : Hid (∀ (u v : World), (BkT w g t ai ar ak (nds t) (ndr t) (lvs t) b1 T1 u /\ u.heap[b2]? = some (tBox T2) /\ TAt u T2) -> Below u.heap.size u v -> (BkT w g t ai ar ak (nds t) (ndr t) (lvs t) b1 T1 v /\ v.heap[b2]? = some (tBox T2) /\ TAt v T2)) := fun u v h hb => ⟨h.1.later hb, (hb.block _ (lt_of_block h.2.1)).trans h.2.1, h.2.2.later hb⟩
   obtain ⟨y0, y1, y2, y3⟩ := tb_cells S2.out.1.s.tb
   go_upto_region 10 with (go_at_call 12; refine (CM.out _ S2.out.1.s.bel).mono ?_; rintro e u3 ⟨rfl, bb⟩; have S3 : Hid (BkT w g t ai ar ak (nds t) (ndr t) (lvs t) b1 T1 u3 /\ u3.heap[b2]? = some (tBox T2) /\ TAt u3 T2) := LT.out _ _ S2.out bb; clear bb y0 y1 y2 y3)
   clear CM S2
   obtain ⟨y0, y1, y2, y3⟩ := tb_cells S3.out.1.s.tb
   obtain ⟨d0, d1, d2, d3⟩ := tb_cells S3.out.1.bx
   obtain ⟨k0, k1, k2, k3⟩ := tb_cells S3.out.2.1
   have CSa := CS
   have CSb := CS
   clear CS
   have g1 : (z != z) = false := by simp
   have g2 : ((Ln : Int) != (Ln : Int)) = false := by simp
   have g3 : IntKind.i64.wrap ((ln : Int) + (Ln : Int)) = z := by
    obtain ⟨a1, a2, a3, a4, a5⟩ := HZ2.out
    rw [a1]
    exact IntWalk.i64_in _ ⟨by omega, by omega⟩
   have g4 : ((ln : Int) != (ln : Int)) = false := by simp
   have g5 : decide (hh < 1) = false := by have := HZ2.out.2.1; simp; omega
   have g6 : decide (hh > (ln : Int)) = false := by have := HZ2.out.2.2.1; simp; omega
   have g7 : decide ((ln : Int) < hh) = false := g6
   go_upto_region 12 with (first | (go_at_call 13; refine (CSa.out T1 _ S3.out.1.s.bel S3.out.1.ta SM1.out).mono ?_; rintro e u4 ⟨rfl, bb⟩; have S4 : Hid (BkT w g t ai ar ak (nds t) (ndr t) (lvs t) b1 T1 u4 /\ u4.heap[b2]? = some (tBox T2) /\ TAt u4 T2) := LT.out _ _ S3.out bb; clear bb y0 y1 y2 y3 d0 d1 d2 d3 k0 k1 k2 k3 CSa; obtain ⟨y0, y1, y2, y3⟩ := tb_cells S4.out.1.s.tb; obtain ⟨k0, k1, k2, k3⟩ := tb_cells S4.out.2.1) | (go_at_call 13; refine (CSb.out T2 _ S4.out.1.s.bel S4.out.2.2 SM2.out).mono ?_; rintro e u5 ⟨rfl, bb⟩; have S5 : Hid (BkT w g t ai ar ak (nds t) (ndr t) (lvs t) b1 T1 u5 /\ u5.heap[b2]? = some (tBox T2) /\ TAt u5 T2) := LT.out _ _ S4.out bb; clear bb y0 y1 y2 y3 k0 k1 k2 k3 CSb))
   clear g1 g2 g3 g4 g5 g6 g7
   obtain ⟨x0, x1, x2, x3, x4⟩ := gbx_cells S5.out.1.s.gb
   obtain ⟨y0, y1, y2, y3⟩ := tb_cells S5.out.1.s.tb
   go_upto_region 13 with (go_at_call 14; refine (CRt.out _ S5.out.1.s.bel).mono ?_; rintro e u6 ⟨rfl, bb⟩; have S6 : Hid (BkT w g t ai ar ak (nds t) (ndr t) (lvs t) b1 T1 u6) := S5.out.1.later bb; clear bb x0 x1 x2 x3 x4 y0 y1 y2 y3)
   refine wp_world (fun w' => ∃ b, b = u6.heap.size /\ BkT w g t ai ar ak (nds t) (ndr t) (lvs t) b1 T1 w' /\ w'.heap[b]? = some (yBoxC 2 (lfP g t.prod))) ⟨_, rfl, S6.out.later (below_alloc _ _), heap_alloc_new _ _⟩ fun u7 hu => ?_
   obtain ⟨b3, hb3, hs⟩ := hu
   rw [<- hb3]
   have S7 : Hid (BkT w g t ai ar ak (nds t) (ndr t) (lvs t) b1 T1 u7) := hs.1
   have m0 : u7.cell? ⟨b3, 0, none⟩ = some (.int .i64 2) := (cellq_any hs.2).trans rfl
   have m1 : u7.cell? ⟨b3, 1, none⟩ = some (.int .i64 (lfP g t.prod)) := (cellq_any hs.2).trans rfl
   clear hs hb3 S5 S6 CRt LT
   obtain ⟨x0, x1, x2, x3, x4⟩ := gbx_cells S7.out.s.gb
   obtain ⟨n1, n2, n3, n4⟩ := HN2.out
   obtain ⟨jn, hjn⟩ : ∃ j : Nat, t.prod = (j : Int) := ⟨t.prod.toNat, by omega⟩
   have hjl : jn < g.ps.length := by omega
   have hlp : lfP g t.prod = (g.ps.getD jn .none).left := by unfold lfP; rw [hjn]; rfl
   obtain ⟨pb, po, hpa, -, k0, -, -⟩ := ps_cells (HG.out _ S7.out.s.bel) hjl
   obtain ⟨m, hm⟩ : ∃ m, ln = m + 1 := ⟨ln - 1, by have := HZ2.out.2.2.2.2; omega⟩
   have hne1 : nds t ≠ [] := fun e => by have := HLN.out.1; rw [e] at this; simp at this; omega
   have hne2 : ndr t ≠ [] := fun e => by have := HLN.out.2; rw [e] at this; simp at this; omega
   obtain ⟨bi, oi, rfl, -, hci⟩ := S7.out.ri hne1
   obtain ⟨br, orr, rfl, -, hcr⟩ := S7.out.rr hne2
   have c0 := hci 0 (by rw [HLN.out.1]; omega)
   have c1 := hcr m (by rw [HLN.out.2]; omega)
   rw [n1, hjn, Nat.add_zero] at c0
   have e9 : ln - 1 = m := by omega
   rw [e9, hjn] at n2
   rw [n2] at c1
   rw [hlp] at m1 ⊢
   rw [hpa] at x3 ⊢
   have o1 : IntKind.i64.wrap (m : Int) = (m : Int) := IntWalk.i64_in _ ⟨by omega, by have := HZ2.out; omega⟩
   have o2 : (m : Int) < (m : Int) + 1 := by omega
   have o3 : (jn : Int) < (g.ps.length : Int) := by omega
   have o4 : (0 : Int) < (m : Int) + 1 := by omega
   have RB : Hid (Below w.heap.size w u7) := S7.out.s.bel
   obtain ⟨lf, hlf⟩ : ∃ lf, (g.ps.getD jn .none).left = lf := ⟨_, rfl⟩
   rw [hlf] at m1 k0 ⊢
   obtain ⟨pl, hpl⟩ : ∃ pl, g.ps.length = pl := ⟨_, rfl⟩
   rw [hpl] at x3 o3 ⊢
   clear S7 HZ2 HN2 HLN HG n1 n2 n3 n4 hjl hlp hpa hne1 hne2 hci hcr e9 SM1 SM2 hlf hpl
   subst hm
   rw [hjn]
   clear hjn
   go_quiet (fail)
   go_wp2
   refine bodyPost_ret (v := .bool true) (by simp [results, Try.results3, go_sem]) rfl ?_
   exact ⟨rfl, below_drewN RB.out _⟩
 ·have q1 : (e1 != 0) = true := by simpa using h1
  clear hg hpc ht hsz hE hgg hz hr1 hr2 h1
  go_enter Try.func3, Try.ntmps3
  go_upto_region 4 with (first | (go_at_call 5; refine (CW.out _).mono ?_; rintro e w0 ⟨rfl, bb⟩; have S0 : Hid (BkS w g t w0) := X0.out.later bb; clear bb x0 x1 x2 x3 x4 y0 y1 y2 y3; obtain ⟨x0, x1, x2, x3, x4⟩ := gbx_cells S0.out.gb; obtain ⟨y0, y1, y2, y3⟩ := tb_cells S0.out.tb) | (go_at_call 6; refine (CC.out _ S0.out.bel).mono ?_; rintro e w1 ⟨rfl, bb⟩; have S1 : Hid (BkS w g t w1) := S0.out.later bb; clear bb x0 x1 x2 x3 x4 y0 y1 y2 y3; obtain ⟨x0, x1, x2, x3, x4⟩ := gbx_cells S1.out.gb; obtain ⟨y0, y1, y2, y3⟩ := tb_cells S1.out.tb))
  go_wp2
  refine bodyPost_ret (v := .bool true) (by simp [results, Try.results3, go_sem]) rfl ?_
  exact ⟨rfl, S1.out.bel⟩
end Go.Proofs.Ytccednepbkjajaa
