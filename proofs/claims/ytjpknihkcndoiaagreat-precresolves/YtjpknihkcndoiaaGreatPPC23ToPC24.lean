import Derived.Test.YtjpknihkcndoiaaGreatPPC20ToPC22
namespace Go.Proofs.YtjpknihkcndoiaaGreat
set_option linter.unusedVariables false
set_option maxRecDepth 100000
set_option maxHeartbeats 16000000
open Go.RowKit Go.Maps
structure DM where
 d : DV
 ao : Option Addr
 c : Nat
def dCells (x : DM) : List Value := [.int .i64 x.d.look, .int .i64 x.d.kind, .int .i64 x.d.prod, .slice x.ao x.d.drop.length x.c, .bool x.d.sd, .int .i64 x.d.lev]
theorem rkDec : RK 58 46 6 dCells := by
 refine ⟨Tryz.underlying46, ?_, by decide, fun _ => rfl, fun x u hu => ?_⟩
 ·have h : (Tryz.prog.info? 58).map (fun i => (i.zero, i.size, i.bytes)) = some (some (.agg #[.int .i64 0, .int .i64 0, .int .i64 0, .slice none 0 0, .bool false, .int .i64 0]), 6, 64) := by kernel_rfl
  cases e : Tryz.prog.info? 58 with
  | none => rw [e] at h; cases h
  | some i =>
   rw [e] at h
   simp at h
   exact ⟨i, _, rfl, h.1, h.2.1, by rw [h.2.2]; decide, rfl⟩
 ·simp only [dCells, List.mem_cons, List.not_mem_nil, or_false] at hu
  rcases hu with rfl | rfl | rfl | rfl | rfl | rfl <;> rfl
theorem lawK : Keyed Tryz.prog 56 := int_keyed Tryz.underlying56
theorem keyOf_K {x : Int} (h0 : 0 <= x) (h1 : x <= 140737488355328) : keyOf Tryz.prog 56 (.int .i64 x) = some (.int .i64 x) := by
 refine keyOf_int_mk Tryz.underlying56 ?_
 have e1 : IntKind.i64.min = -9223372036854775808 := by decide
 have e2 : IntKind.i64.max = 9223372036854775807 := by decide
 simp [Lit.wf, e1, e2]
 omega
theorem zeroDs (w : World) : (zeroValue 46).run Tryz.prog w = .ok (.slice none 0 0) w := by kernel_rfl
def kindM (k : Int) (xs : List DM) : List DM := xs.filter fun x => decide (x.d.kind = k)
theorem kindM_snoc (k : Int) (xs : List DM) (x : DM) : kindM k (xs ++ [x]) = if x.d.kind = k then kindM k xs ++ [x] else kindM k xs := by
 unfold kindM
 rw [List.filter_append]
 by_cases h : x.d.kind = k <;> simp [h]
theorem kindM_d (k : Int) (xs : List DM) : (kindM k xs).map DM.d = kindD k (xs.map DM.d) := by
 unfold kindM kindD
 rw [List.filter_map]
 rfl
structure RS (g : GV) (q : CV) (w0 : World) (jb mb : Nat) (xs : List DM) (f : Int -> Value) (w : World) : Prop where
 cb : w.heap[w0.heap.size]? = some (.cells #[.int .i64 q.st, .int .i64 q.look, .int .i64 q.shift, .slice q.ra q.red.length q.rc] 44 (0, 0))
 rb : w.heap[w0.heap.size + 1]? = some (.cells #[.int .i64 0, .int .i64 0, .int .i64 0, .slice none 0 0, .bool false, .int .i64 0] 58 (0, 0))
 bel : Below w0.heap.size w0 w
 mp : ∃ D, w.ownsMap Tryz.prog 56 heldE mb xs.length D /\ FMp (.slice none 0 0) D f
 rows : ∀ k, RO 58 6 dCells w (f k) (kindM k xs)
 ne : ∀ k k', k ≠ k' -> ∀ b, (f k).ownBlock = some b -> (f k').ownBlock ≠ some b
 lo : ∀ k b, (f k).ownBlock = some b -> w0.heap.size + 1 < b
 ds : ∀ x ∈ xs, D1 (w0.heap.size + 2) w x.d x.ao x.c
 mlo : w0.heap.size + 1 < mb
theorem RS.mapAt {g : GV} {q : CV} {w0 : World} {jb mb : Nat} {xs : List DM} {f : Int -> Value} {w : World} (h : RS g q w0 jb mb xs f w) : ∃ es cl, w.heap[mb]? = some (.map es cl) := by
 obtain ⟨D, ⟨es, cl, h1, _⟩, _⟩ := h.mp
 exact ⟨es, cl, h1⟩
theorem ownsK_kept {w w' : World} {b n : Nat} {D : DataW Value} (h : w.ownsMap Tryz.prog 56 heldE b n D) (e : w'.heap[b]? = w.heap[b]?) : w'.ownsMap Tryz.prog 56 heldE b n D := by
 obtain ⟨es, cl, h1, h2⟩ := h
 exact ⟨es, cl, e.trans h1, h2⟩
theorem RS.later {g : GV} {q : CV} {w0 : World} {jb mb : Nat} {xs : List DM} {f : Int -> Value} {w w' : World} (h : RS g q w0 jb mb xs f w) (hb : Below w.heap.size w w') : RS g q w0 jb mb xs f w' := by
 obtain ⟨es, cl, hm⟩ := h.mapAt
 obtain ⟨D, hD, hF⟩ := h.mp
 exact ⟨blk_later h.cb hb, blk_later h.rb hb, h.bel.trans (hb.mono h.bel.size), ⟨D, ownsK_kept hD (hb.block _ (lt_of_block hm)), hF⟩, fun k => (h.rows k).later hb, h.ne, h.lo, fun x hx => (h.ds x hx).later hb, h.mlo⟩
theorem RS.look {g : GV} {q : CV} {w0 : World} {jb mb : Nat} {xs : List DM} {f : Int -> Value} {w : World} (h : RS g q w0 jb mb xs f w) (k : Int) (h0 : 0 <= k) (h1 : k <= 3) : (Instr.lookup 125 (.map (some mb)) (.int .i64 k) false).run Tryz.prog w = .ok (f k) w := by
 obtain ⟨D, hD, hF⟩ := h.mp
 obtain ⟨v, ps, hrun, hv⟩ := hD.lookup lawK Tryz.underlying125 (zeroDs w) (heldE_mk _) (keyOf_K (x := k) (by omega) (by omega))
 rw [hF.at_ k] at hv
 rw [hrun, heldE_inv hv]
theorem RS.start (g : GV) (q : CV) (w0 w : World) (jb : Nat) (hc : w.heap[w0.heap.size]? = some (.cells #[.int .i64 q.st, .int .i64 q.look, .int .i64 q.shift, .slice q.ra q.red.length q.rc] 44 (0, 0))) (hr : w.heap[w0.heap.size + 1]? = some (.cells #[.int .i64 0, .int .i64 0, .int .i64 0, .slice none 0 0, .bool false, .int .i64 0] 58 (0, 0))) (hb : Below w0.heap.size w0 w) : RS g q w0 jb w.heap.size [] (fun _ => .slice none 0 0) (w.alloc (.map #[] 0)) := by
 refine ⟨blk_later hc (below_alloc _ _), blk_later hr (below_alloc _ _), hb.trans ((below_alloc _ _).mono hb.size), ⟨.map [], World.ownsMap_made _ _ _ _, FMp.empty _⟩, fun k => RO.nil _, fun k k' _ b e => ?_, fun k b e => ?_, fun x hx => absurd hx List.not_mem_nil, lt_of_block hr⟩
 ·have : (none : Option Nat) = some b := e
  cases this
 ·have : (none : Option Nat) = some b := e
  cases this
theorem RS.held {g : GV} {q : CV} {w0 : World} {jb mb : Nat} {xs : List DM} {f : Int -> Value} {w w' : World} {v' : Value} {k : Int} (h : RS g q w0 jb mb xs f w) (hg : Grew w w' (f k) v') {b : Nat} {o : Obj} (ho : w.heap[b]? = some o) (hn : ∀ cur fr, o ≠ .cells cur 58 fr) : w'.heap[b]? = some o :=
 grew_ne hg ho fun e => by obtain ⟨cur, fr, q⟩ := (h.rows k).ty e; rw [ho] at q; exact hn cur fr (by simpa using q)
theorem RS.push {g : GV} {q : CV} {w0 : World} {jb mb : Nat} {xs : List DM} {f : Int -> Value} {w w1 w2 : World} {x : DM} {v' : Value} (h : RS g q w0 jb mb xs f w) (hx : D1 (w0.heap.size + 2) w x.d x.ao x.c) (hg : Grew w w1 (f x.d.kind) v') (hr : RO 58 6 dCells w1 v' (kindM x.d.kind xs ++ [x]))
  (hm : ∀ D, w1.ownsMap Tryz.prog 56 heldE mb xs.length D -> w2.ownsMap Tryz.prog 56 heldE mb (xs.length + 1) (D.put (.int .i64 x.d.kind) (.held v'))) (hgm : w1.grownBy w2 (some mb)) :
  RS g q w0 jb mb (xs ++ [x]) (fun y => if y = x.d.kind then v' else f y) w2 := by
 obtain ⟨es, cl, hmo⟩ := h.mapAt
 obtain ⟨D, hD, hF⟩ := h.mp
 have mh : w1.heap[mb]? = some (.map es cl) := h.held hg hmo (fun _ _ e => by cases e)
 have hb1 : Below w0.heap.size w0 w1 := hg.below h.bel (Nat.le_refl _) (fun j hj => by have := h.lo _ _ hj; omega)
 have hb2 : Below w0.heap.size w0 w2 := ⟨hgm.os.trans hb1.os, hgm.tape.trans hb1.tape, hgm.output.trans hb1.output, Nat.le_trans hb1.size hgm.size, fun j hj => (hgm.block j (by have := hb1.size; omega) (fun e => by have := h.mlo; simp at e; omega)).trans (hb1.block j hj)⟩
 have kp : ∀ b o, w1.heap[b]? = some o -> b ≠ mb -> w2.heap[b]? = some o := fun b o ho hne => (hgm.block b (lt_of_block ho) (fun e => hne (by simpa using e))).trans ho
 have cb1 := h.held hg h.cb (fun _ _ e => by simp at e)
 have rbne : (f x.d.kind).ownBlock ≠ some (w0.heap.size + 1) := fun e => by have := h.lo _ _ e; omega
 have rb1 := grew_ne hg h.rb rbne
 have own2 : ∀ {v : Value} {l : List DM}, RO 58 6 dCells w1 v l -> RO 58 6 dCells w2 v l := fun {v l} hv => hv.kept fun j hj => by
  obtain ⟨cur, fr, e⟩ := hv.ty hj
  refine (kp j _ e (fun e' => ?_)).trans e.symm
  subst e'
  rw [mh] at e
  cases e
 refine ⟨kp _ _ cb1 (by have := h.mlo; omega), kp _ _ rb1 (by have := h.mlo; omega), hb2, ⟨_, by rw [List.length_append]; exact hm D (ownsK_kept hD (mh.trans hmo.symm)), hF.put _ _⟩, fun k => ?_, fun k k' hkk b e => ?_, fun k b e => ?_, fun y hy => ?_, h.mlo⟩
 ·rw [kindM_snoc]
  by_cases hk : k = x.d.kind
  ·subst hk
   rw [if_pos rfl, if_pos rfl]
   exact own2 hr
  ·rw [if_neg hk, if_neg (fun e => hk e.symm)]
   exact own2 ((h.rows k).kept fun j hj => hg.grown.block j ((h.rows k).lt j hj) (fun e => h.ne k _ hk j hj e.symm))
 ·by_cases h1 : k = x.d.kind
  ·rw [if_pos h1] at e
   rw [if_neg (fun e' => hkk (h1.trans e'.symm))]
   exact new_ne hg (fun j hj => (h.rows k').lt j hj) (fun i hi => h.ne _ _ (fun e' => hkk (h1.trans e')) i hi) b e
  ·rw [if_neg h1] at e
   by_cases h2 : k' = x.d.kind
   ·rw [if_pos h2]
    intro e2
    exact new_ne hg (fun j hj => (h.rows k).lt j hj) (fun i hi => h.ne _ _ (fun e' => h1 e'.symm) i hi) b e2 e
   ·rw [if_neg h2]
    exact h.ne k k' hkk b e
 ·by_cases h1 : k = x.d.kind
  ·rw [if_pos h1] at e
   have := hg.own (n := w0.heap.size + 2) (lt_of_block h.rb) (fun j hj => h.lo _ _ hj) b e
   omega
  ·rw [if_neg h1] at e
   exact h.lo k b e
 ·have hy1 : D1 (w0.heap.size + 2) w y.d y.ao y.c := by
   rcases List.mem_append.1 hy with hy | hy
   ·exact h.ds y hy
   ·obtain rfl : y = x := by simpa using hy
    exact hx
  rcases hy1 with hy1 | ⟨b, p, a1, a2, a3, a4, a5⟩
  ·exact .inl hy1
  ·exact .inr ⟨b, p, a1, a2, a3, a4, kp _ _ (h.held hg a5 (fun _ _ e => by simp at e)) (fun e => by subst e; rw [hmo] at a5; cases a5)⟩
theorem step_mapUpdate {P : Program} {ops : Array Oper} {o : Oper} {a : Act} {w w' : World} {K : Act -> World -> Prop} {Q : Exit -> Act -> World -> Prop} {E : Prop} (hg : o.guard = none) (m x v : Operand) (t : TypeId) (hop : o.op = Op.mapUpdate t m x v) (mv key val : Value) (hm : a.eval m = mv) (hx : a.eval x = key) (hv : a.eval v = val) (hrun : (Instr.mapUpdate t mv key val).run P w = .ok () w') (hK : K (a.put o.dst undef) w') :
  if Region.wanted o (yielded ops a.tmps) = true then Oper.wp P o a w K Q else E := by
 have hw : Region.wanted o (yielded ops a.tmps) = true := by simp [Region.wanted, hg]
 rw [if_pos hw]
 unfold Oper.wp
 simp [execOp, hop, hm, hx, hv, hrun, Result.andThen]
 exact hK
end Go.Proofs.YtjpknihkcndoiaaGreat
namespace Go.Proofs.YtjpknihkcndoiaaGreat
set_option linter.unusedVariables false
set_option maxRecDepth 100000
set_option maxHeartbeats 16000000
open Go.RowKit Go.Maps
theorem dec_kind (g : GV) (p : Nat) (t : Int) : 0 <= (decU g p t).kind /\ (decU g p t).kind <= 3 := by
 unfold decU duelD eqD
 repeat' split
 all_goals (simp [noneD, redD, shiD, errD])
set_option linter.unusedSimpArgs false in
theorem resolve_yes (g : GV) (q : CV) (jb : Nat) (w : World) (h : JU g jb w) (hg : GAt 140737488355328 w g) (ok : OkC g) (hr : InRow w q.ra q.red) (hlk : 0 <= q.look /\ q.look < g.ts.length) (hel : ∀ p ∈ q.red, 0 <= p /\ p < g.ps.length) (hrl : q.red.length <= 257) (hs : q.shift ≠ -1) (hna : q.red.contains (-1) = false) (hne : q.red ≠ []) :
  Calls Tryz.prog 22 #[.pointer (some ⟨jb, 0, none⟩), q.val] w (DrO w (pickD q.look q.red (q.red.map fun p => decU g p.toNat q.look))) := by
 have X0 : Hid (((w.alloc (.cells #[.int .i64 q.st, .int .i64 q.look, .int .i64 q.shift, .slice q.ra q.red.length q.rc] 44)).alloc dZero).heap[w.heap.size]? = some (.cells #[.int .i64 q.st, .int .i64 q.look, .int .i64 q.shift, .slice q.ra q.red.length q.rc] 44 (0, 0)) /\ ((w.alloc (.cells #[.int .i64 q.st, .int .i64 q.look, .int .i64 q.shift, .slice q.ra q.red.length q.rc] 44)).alloc dZero).heap[w.heap.size + 1]? = some (.cells #[.int .i64 0, .int .i64 0, .int .i64 0, .slice none 0 0, .bool false, .int .i64 0] 58 (0, 0)) /\ Below w.heap.size w ((w.alloc (.cells #[.int .i64 q.st, .int .i64 q.look, .int .i64 q.shift, .slice q.ra q.red.length q.rc] 44)).alloc dZero)) := by
  have q1 := heap_alloc_new (w.alloc (.cells #[.int .i64 q.st, .int .i64 q.look, .int .i64 q.shift, .slice q.ra q.red.length q.rc] 44)) dZero
  rw [alZ] at q1
  exact ⟨blk_later (heap_alloc_new _ _) (below_alloc _ _), q1, (below_alloc w _).trans ((below_alloc _ _).mono (below_alloc w _).size)⟩
 have HW : Hid (∀ w', Below w.heap.size w w' -> InRow w' q.ra q.red) := fun w' hb => hr.later hb
 have HCN : Hid (∀ w', Below w.heap.size w w' -> Calls Tryz.prog 57 #[.slice q.ra q.red.length q.rc, .int .i64 (-1)] w' fun e w'' => e = .returned (.bool false) /\ w'' = w') := fun w' hb => contains_P q.ra q.rc q.red (-1) w' false hna (by omega) (hr.later hb)
 have HDC : Hid (∀ w' (p : Int), Below w.heap.size w w' -> 0 <= p -> p < g.ps.length -> Calls Tryz.prog 59 #[.pointer (some ⟨jb, 0, none⟩), .int .i64 p, .int .i64 q.look] w' (DuO w' (decU g p.toNat q.look))) := fun w' p hb h0 h1 => by
  have := decide_P g jb p.toNat q.look.toNat w' (h.later hb) (hg.later hb) ok (by omega) (by omega)
  rwa [Int.toNat_of_nonneg h0, Int.toNat_of_nonneg hlk.1] at this
 have HEL : Hid (∀ i, i < q.red.length -> 0 <= q.red.getD i 0 /\ q.red.getD i 0 < g.ps.length) := fun i hi => hel _ (mem_getD hi)
 have hs1 : (q.shift == -1) = false := by simpa using hs
 obtain ⟨y0, y1, y2, y3⟩ := cb_cells (q := q) X0.out.1
 have hmm := @run_makeMap Tryz.prog
 have hsz0 : ((w.alloc (.cells #[.int .i64 q.st, .int .i64 q.look, .int .i64 q.shift, .slice q.ra q.red.length q.rc] 44)).alloc dZero).heap.size = w.heap.size + 1 + 1 := by rw [alZ, alZ]
 have HNE : Hid (q.red ≠ []) := hne
 have R0 : Hid (RS g q w jb (w.heap.size + 1 + 1) [] (fun _ => .slice none 0 0) (((w.alloc (.cells #[.int .i64 q.st, .int .i64 q.look, .int .i64 q.shift, .slice q.ra q.red.length q.rc] 44)).alloc dZero).alloc (.map #[] 0))) := by
  have := RS.start g q w ((w.alloc (.cells #[.int .i64 q.st, .int .i64 q.look, .int .i64 q.shift, .slice q.ra q.red.length q.rc] 44)).alloc dZero) jb X0.out.1 X0.out.2.1 X0.out.2.2
  rwa [hsz0] at this
 clear h hg hr hna hel hlk ok hne
 go_enter Tryz.func22, Tryz.ntmps22
 obtain ⟨u0, u1, u2, u3⟩ := cb_cells (q := q) R0.out.cb
 go_wp2_with (go_at_call 57; refine (HCN.out _ X0.out.2.2).mono ?_; rintro e w1 ⟨rfl, hw1⟩; rw [hw1]; clear hw1 w1)
 clear y0 y1 y2 y3 u0 u1 u2 u3 hmm hsz0
 generalize ((w.alloc (.cells #[.int .i64 q.st, .int .i64 q.look, .int .i64 q.shift, .slice q.ra q.red.length q.rc] 44)).alloc dZero).alloc (.map #[] 0) = WM at *
 generalize w.heap.size + 1 + 1 = mb at *
 go_loopw [26] (fun z wr => ∃ (i : Nat) (xs : List DM) (f : Int -> Value), i <= q.red.length /\ z = .int .i64 i /\ RS g q w jb mb xs f wr /\ xs.map DM.d = (q.red.take i).map fun p => decU g p.toNat q.look) (fun z _ => q.red.length - (intOf z).toNat)
 case atStart => exact ⟨0, [], _, Nat.zero_le _, rfl, R0.out, rfl⟩
 case round =>
  clear R0
  obtain ⟨i, xs, f, hi, rfl, hR, hE⟩ := hrel
  have HRS : Hid (RS g q w jb mb xs f wr) := hR
  by_cases hlt : i < q.red.length
  ·obtain ⟨rb, ro, hra, hrb, hrc⟩ := HW.out wr hR.bel HNE.out
   have r0 := hrc i hlt
   have ilt : (i : Int) < (q.red.length : Int) := by omega
   have hp := HEL.out i hlt
   have ET : q.red.take (i + 1) = q.red.take i ++ [q.red.getD i 0] := take_snocD hlt
   obtain ⟨y0, y1, y2, y3⟩ := cb_cells (q := q) hR.cb
   have DCL : Hid (Calls Tryz.prog 59 #[.pointer (some ⟨jb, 0, none⟩), .int .i64 (q.red.getD i 0), .int .i64 q.look] wr (DuO wr (decU g (q.red.getD i 0).toNat q.look))) := HDC.out wr _ hR.bel hp.1 hp.2
   have HK : Hid (0 <= (decU g (q.red.getD i 0).toNat q.look).kind /\ (decU g (q.red.getD i 0).toNat q.look).kind <= 3) := dec_kind g _ _
   have HE2 : Hid (∀ ao c, (xs ++ [(⟨decU g (q.red.getD i 0).toNat q.look, ao, c⟩ : DM)]).map DM.d = (q.red.take (i + 1)).map fun p => decU g p.toNat q.look) := fun ao c => by rw [ET, List.map_append, List.map_append, hE]; rfl
   have HL : Hid (∀ k, (kindM k xs).length <= 1000000000) := fun k => by
    have h1 : (kindM k xs).length <= xs.length := List.length_filter_le _ _
    have h2 := congrArg List.length hE
    rw [List.length_map, List.length_map, List.length_take] at h2
    omega
   have HXL : Hid (xs.length < maxLen) := by
    show _ < _
    have h2 := congrArg List.length hE
    rw [List.length_map, List.length_map, List.length_take] at h2
    unfold maxLen
    omega
   rw [hra]
   clear hrc hE hR ET hp hrb
   generalize decU g (q.red.getD i 0).toNat q.look = d at *
   generalize q.red.getD i 0 = pr at *
   go_wp2_with (go_at_call 59; refine DCL.out.mono ?_; rintro e w3 ⟨ao, c, rfl, d3', b3⟩; have R3 : Hid (RS g q w jb mb xs f (w3.alloc (.cells #[.int .i64 d.look, .int .i64 d.kind, .int .i64 d.prod, .slice ao d.drop.length c, .bool d.sd, .int .i64 d.lev] 58)) /\ D1 (w.heap.size + 2) (w3.alloc (.cells #[.int .i64 d.look, .int .i64 d.kind, .int .i64 d.prod, .slice ao d.drop.length c, .bool d.sd, .int .i64 d.lev] 58)) d ao c /\ (w3.alloc (.cells #[.int .i64 d.look, .int .i64 d.kind, .int .i64 d.prod, .slice ao d.drop.length c, .bool d.sd, .int .i64 d.lev] 58)).heap[w3.heap.size]? = some (.cells #[.int .i64 d.look, .int .i64 d.kind, .int .i64 d.prod, .slice ao d.drop.length c, .bool d.sd, .int .i64 d.lev] 58 (0, 0))) := ⟨(HRS.out.later b3).later (below_alloc _ _), (d3'.mono (lt_of_block HRS.out.rb)).later (below_alloc _ _), heap_alloc_new _ _⟩; have HB3 : Hid (wr.heap.size <= w3.heap.size) := b3.size; clear d3' b3 y0 y1 y2 y3 DCL)
   obtain ⟨fa, fn, fc, hf⟩ : ∃ fa fn fc, f d.kind = .slice fa fn fc := by
    obtain ⟨a, c', e, _⟩ := (R3.out.1.rows d.kind).len
    exact ⟨a, _, c', e⟩
   have HF : Hid (f d.kind = .slice fa fn fc) := hf
   have HS : Hid (∀ w', w'.heap[w3.heap.size]? = some (.cells #[.int .i64 d.look, .int .i64 d.kind, .int .i64 d.prod, .slice ao d.drop.length c, .bool d.sd, .int .i64 d.lev] 58 (0, 0)) -> (fun w' : World => w'.cell? ⟨w3.heap.size, 0, none⟩ = some (.int .i64 d.look) /\ w'.cell? ⟨w3.heap.size, 1, none⟩ = some (.int .i64 d.kind) /\ w'.cell? ⟨w3.heap.size, 2, none⟩ = some (.int .i64 d.prod) /\ w'.cell? ⟨w3.heap.size, 3, none⟩ = some (.slice ao d.drop.length c) /\ w'.cell? ⟨w3.heap.size, 4, none⟩ = some (.bool d.sd) /\ w'.cell? ⟨w3.heap.size, 5, none⟩ = some (.int .i64 d.lev)) w') := fun w' h2 => ⟨(cellq_any h2).trans rfl, (cellq_any h2).trans rfl, (cellq_any h2).trans rfl, (cellq_any h2).trans rfl, (cellq_any h2).trans rfl, (cellq_any h2).trans rfl⟩
   have HLk : Hid (∀ w', RS g q w jb mb xs f w' -> (fun w' : World => (Instr.lookup 125 (.map (some mb)) (.int .i64 d.kind) false).run Tryz.prog w' = .ok (.slice fa fn fc) w') w') := fun w' h2 => by
    have := h2.look d.kind HK.out.1 HK.out.2
    rwa [HF.out] at this
   have R4 : Hid (RS g q w jb mb xs f (w3.alloc (.cells #[.int .i64 d.look, .int .i64 d.kind, .int .i64 d.prod, .slice ao d.drop.length c, .bool d.sd, .int .i64 d.lev] 58)).drew /\ D1 (w.heap.size + 2) (w3.alloc (.cells #[.int .i64 d.look, .int .i64 d.kind, .int .i64 d.prod, .slice ao d.drop.length c, .bool d.sd, .int .i64 d.lev] 58)).drew d ao c /\ (w3.alloc (.cells #[.int .i64 d.look, .int .i64 d.kind, .int .i64 d.prod, .slice ao d.drop.length c, .bool d.sd, .int .i64 d.lev] 58)).drew.heap[w3.heap.size]? = some (.cells #[.int .i64 d.look, .int .i64 d.kind, .int .i64 d.prod, .slice ao d.drop.length c, .bool d.sd, .int .i64 d.lev] 58 (0, 0))) := ⟨R3.out.1.later (Below.refl _ _).drew, R3.out.2.1.later (Below.refl _ _).drew, R3.out.2.2⟩
   have hs : Hid ((fun w' : World => w'.cell? ⟨w3.heap.size, 0, none⟩ = some (.int .i64 d.look) /\ w'.cell? ⟨w3.heap.size, 1, none⟩ = some (.int .i64 d.kind) /\ w'.cell? ⟨w3.heap.size, 2, none⟩ = some (.int .i64 d.prod) /\ w'.cell? ⟨w3.heap.size, 3, none⟩ = some (.slice ao d.drop.length c) /\ w'.cell? ⟨w3.heap.size, 4, none⟩ = some (.bool d.sd) /\ w'.cell? ⟨w3.heap.size, 5, none⟩ = some (.int .i64 d.lev)) (w3.alloc (.cells #[.int .i64 d.look, .int .i64 d.kind, .int .i64 d.prod, .slice ao d.drop.length c, .bool d.sd, .int .i64 d.lev] 58)).drew /\ (fun w' : World => (Instr.lookup 125 (.map (some mb)) (.int .i64 d.kind) false).run Tryz.prog w' = .ok (.slice fa fn fc) w') (w3.alloc (.cells #[.int .i64 d.look, .int .i64 d.kind, .int .i64 d.prod, .slice ao d.drop.length c, .bool d.sd, .int .i64 d.lev] 58)).drew) := ⟨HS.out _ R4.out.2.2, HLk.out _ R4.out.1⟩
   clear hf
   refine wp_region_x (S := SX 10 (fun w' : World => w'.cell? ⟨w3.heap.size, 0, none⟩ = some (.int .i64 d.look) /\ w'.cell? ⟨w3.heap.size, 1, none⟩ = some (.int .i64 d.kind) /\ w'.cell? ⟨w3.heap.size, 2, none⟩ = some (.int .i64 d.prod) /\ w'.cell? ⟨w3.heap.size, 3, none⟩ = some (.slice ao d.drop.length c) /\ w'.cell? ⟨w3.heap.size, 4, none⟩ = some (.bool d.sd) /\ w'.cell? ⟨w3.heap.size, 5, none⟩ = some (.int .i64 d.lev)) (fun w' : World => (Instr.lookup 125 (.map (some mb)) (.int .i64 d.kind) false).run Tryz.prog w' = .ok (.slice fa fn fc) w')) (by kernel_rfl) ?_
   refine takeK 10 8 (i := 0) (v := ?_) rfl (by kernel_rfl) (by kernel_rfl) (by decide) (by decide) (by decide +kernel) (by decide +kernel) (fun _ _ _ h => h) (by kernel_rfl) (Or.inl ⟨by rfl, ?_⟩) (SX.both hs.out.1 hs.out.2) ?_
   rotate_left
   ·(intro w hSw; (try dsimp only at hSw); go_simp; try (with_reducible rfl))
   (try simp only [Act.put, lsA, lsZ, lsN])
   refine takeK 10 8 (i := 1) (v := ?_) rfl (by kernel_rfl) (by kernel_rfl) (by decide) (by decide) (by decide +kernel) (by decide +kernel) (fun _ _ _ h => h) (by kernel_rfl) (Or.inl ⟨by rfl, ?_⟩) (SX.both hs.out.1 hs.out.2) ?_
   rotate_left
   ·(intro w hSw; (try dsimp only at hSw); go_simp; try (with_reducible rfl))
   (try simp only [Act.put, lsA, lsZ, lsN])
   refine takeK 10 8 (i := 2) (v := ?_) rfl (by kernel_rfl) (by kernel_rfl) (by decide) (by decide) (by decide +kernel) (by decide +kernel) (fun _ _ _ h => h) (by kernel_rfl) (Or.inl ⟨by rfl, ?_⟩) (SX.both hs.out.1 hs.out.2) ?_
   rotate_left
   ·(intro w hSw; (try dsimp only at hSw); go_simp; try (with_reducible rfl))
   (try simp only [Act.put, lsA, lsZ, lsN])
   refine takeK 10 8 (i := 3) (v := ?_) rfl (by kernel_rfl) (by kernel_rfl) (by decide) (by decide) (by decide +kernel) (by decide +kernel) (fun _ _ _ h => h) (by kernel_rfl) (Or.inl ⟨by rfl, ?_⟩) (SX.both hs.out.1 hs.out.2) ?_
   rotate_left
   ·(intro w hSw; (try dsimp only at hSw); go_simp; try (with_reducible rfl))
   (try simp only [Act.put, lsA, lsZ, lsN])
   refine takeK 10 8 (i := 4) (v := ?_) rfl (by kernel_rfl) (by kernel_rfl) (by decide) (by decide) (by decide +kernel) (by decide +kernel) (fun _ _ _ h => h) (by kernel_rfl) (Or.inl ⟨by rfl, ?_⟩) (SX.both hs.out.1 hs.out.2) ?_
   rotate_left
   ·(intro w hSw; (try dsimp only at hSw); go_simp; try (with_reducible rfl))
   (try simp only [Act.put, lsA, lsZ, lsN])
   refine takeK 10 8 (i := 5) (v := ?_) rfl (by kernel_rfl) (by kernel_rfl) (by decide) (by decide) (by decide +kernel) (by decide +kernel) (fun _ _ _ h => h) (by kernel_rfl) (Or.inl ⟨by rfl, ?_⟩) (SX.both hs.out.1 hs.out.2) ?_
   rotate_left
   ·(intro w hSw; (try dsimp only at hSw); go_simp; try (with_reducible rfl))
   (try simp only [Act.put, lsA, lsZ, lsN])
   refine takeK 10 8 (i := 6) (v := ?_) rfl (by kernel_rfl) (by kernel_rfl) (by decide) (by decide) (by decide +kernel) (by decide +kernel) (fun _ _ _ h => h) (by kernel_rfl) (Or.inl ⟨by rfl, ?_⟩) (SX.both hs.out.1 hs.out.2) ?_
   rotate_left
   ·(intro w hSw; (try dsimp only at hSw); go_simp; try (with_reducible rfl))
   (try simp only [Act.put, lsA, lsZ, lsN])
   refine takeK 10 8 (i := 7) (v := ?_) rfl (by kernel_rfl) (by kernel_rfl) (by decide) (by decide) (by decide +kernel) (by decide +kernel) (fun _ _ _ h => h) (by kernel_rfl) (Or.inl ⟨by rfl, ?_⟩) (SX.both hs.out.1 hs.out.2) ?_
   rotate_left
   ·(intro w hSw; (try dsimp only at hSw); go_simp; try (with_reducible rfl))
   (try simp only [Act.put, lsA, lsZ, lsN])
   refine wpAnyX_one (j := 8) (by decide +kernel) rfl (fun K' hK => ?_)
   go_simp
   have R5 : Hid (RS g q w jb mb xs f ((w3.alloc (.cells #[.int .i64 d.look, .int .i64 d.kind, .int .i64 d.prod, .slice ao d.drop.length c, .bool d.sd, .int .i64 d.lev] 58)).drew.alloc (.cells #[.int .i64 d.look, .int .i64 d.kind, .int .i64 d.prod, .slice ao d.drop.length c, .bool d.sd, .int .i64 d.lev] 58)) /\ D1 (w.heap.size + 2) ((w3.alloc (.cells #[.int .i64 d.look, .int .i64 d.kind, .int .i64 d.prod, .slice ao d.drop.length c, .bool d.sd, .int .i64 d.lev] 58)).drew.alloc (.cells #[.int .i64 d.look, .int .i64 d.kind, .int .i64 d.prod, .slice ao d.drop.length c, .bool d.sd, .int .i64 d.lev] 58)) d ao c /\ ((w3.alloc (.cells #[.int .i64 d.look, .int .i64 d.kind, .int .i64 d.prod, .slice ao d.drop.length c, .bool d.sd, .int .i64 d.lev] 58)).drew.alloc (.cells #[.int .i64 d.look, .int .i64 d.kind, .int .i64 d.prod, .slice ao d.drop.length c, .bool d.sd, .int .i64 d.lev] 58)).heap[w3.heap.size]? = some (.cells #[.int .i64 d.look, .int .i64 d.kind, .int .i64 d.prod, .slice ao d.drop.length c, .bool d.sd, .int .i64 d.lev] 58 (0, 0))) := ⟨R4.out.1.later (below_alloc _ _), R4.out.2.1.later (below_alloc _ _), blk_later R4.out.2.2 (below_alloc _ _)⟩
   have hsz5 : (w3.alloc (.cells #[.int .i64 d.look, .int .i64 d.kind, .int .i64 d.prod, .slice ao d.drop.length c, .bool d.sd, .int .i64 d.lev] 58)).drew.heap.size = w3.heap.size + 1 := by simp
   have R5n : Hid (((w3.alloc (.cells #[.int .i64 d.look, .int .i64 d.kind, .int .i64 d.prod, .slice ao d.drop.length c, .bool d.sd, .int .i64 d.lev] 58)).drew.alloc (.cells #[.int .i64 d.look, .int .i64 d.kind, .int .i64 d.prod, .slice ao d.drop.length c, .bool d.sd, .int .i64 d.lev] 58)).heap[w3.heap.size + 1]? = some (.cells #[.int .i64 d.look, .int .i64 d.kind, .int .i64 d.prod, .slice ao d.drop.length c, .bool d.sd, .int .i64 d.lev] 58 (0, 0))) := by have := heap_alloc_new (w3.alloc (.cells #[.int .i64 d.look, .int .i64 d.kind, .int .i64 d.prod, .slice ao d.drop.length c, .bool d.sd, .int .i64 d.lev] 58)).drew (.cells #[.int .i64 d.look, .int .i64 d.kind, .int .i64 d.prod, .slice ao d.drop.length c, .bool d.sd, .int .i64 d.lev] 58); rwa [hsz5] at this
   refine hK.out _ _ (SX.both (HS.out _ R5.out.2.2) (HLk.out _ R5.out.1)) ?_
   clear hK K'
   (try simp only [Act.put, lsA, lsZ, lsN])
   refine wpAnyX_one (j := 9) (by decide +kernel) rfl (fun K' hK => ?_)
   refine step_ro_append rkDec (by rfl) _ _ (by rfl) (.slice fa fn fc) (kindM d.kind xs) (by rfl) (by have := R5.out.1.rows d.kind; rwa [HF.out] at this) (w3.heap.size + 1) 1 ⟨d, ao, c⟩ (by rfl) (fun j u hu => ?_) (HL.out _) ?_
   ·refine Eq.trans (cellq_any (i := j) R5n.out) ?_
    match j with
    | 0 => simpa [dCells] using hu
    | 1 => simpa [dCells] using hu
    | 2 => simpa [dCells] using hu
    | 3 => simpa [dCells] using hu
    | 4 => simpa [dCells] using hu
    | 5 => simpa [dCells] using hu
    | j + 6 => simp [dCells] at hu
   intro a6 n6 c6 w6 ho6 hg6
   rw [<- HF.out] at hg6
   have P6 : Hid (w6.heap[w3.heap.size]? = some (.cells #[.int .i64 d.look, .int .i64 d.kind, .int .i64 d.prod, .slice ao d.drop.length c, .bool d.sd, .int .i64 d.lev] 58 (0, 0))) := grew_ne hg6 R5.out.2.2 (fun e => by have := (HRS.out.rows d.kind).lt _ e; have := HB3.out; omega)
   have M6 : Hid (∀ D, ((w3.alloc (.cells #[.int .i64 d.look, .int .i64 d.kind, .int .i64 d.prod, .slice ao d.drop.length c, .bool d.sd, .int .i64 d.lev] 58)).drew.alloc (.cells #[.int .i64 d.look, .int .i64 d.kind, .int .i64 d.prod, .slice ao d.drop.length c, .bool d.sd, .int .i64 d.lev] 58)).ownsMap Tryz.prog 56 heldE mb xs.length D -> w6.ownsMap Tryz.prog 56 heldE mb xs.length D) := fun D hD => by
    obtain ⟨es, cl, hmo⟩ := R5.out.1.mapAt
    exact ownsK_kept hD ((R5.out.1.held hg6 hmo (fun _ _ e => by cases e)).trans hmo.symm)
   obtain ⟨w7, UP⟩ : ∃ w7, Hid ((Instr.mapUpdate 125 (.map (some mb)) (.int .i64 d.kind) (.slice a6 n6 c6)).run Tryz.prog w6 = .ok () w7 /\ w6.grownBy w7 (some mb)) := by
    obtain ⟨D, hD, hF⟩ := R5.out.1.mp
    obtain ⟨w7, h1, h2, h3⟩ := (M6.out D hD).update lawK Tryz.underlying125 HXL.out (keyOf_K (x := d.kind) HK.out.1 (by have := HK.out.2; omega)) (heldE_mk (.slice a6 n6 c6))
    exact ⟨w7, h1, h3⟩
   have L6 : Hid ((fun w' : World => (Instr.lookup 125 (.map (some mb)) (.int .i64 d.kind) false).run Tryz.prog w' = .ok (.slice fa fn fc) w') w6) := by
    obtain ⟨D, hD, hF⟩ := R5.out.1.mp
    obtain ⟨v, ps, hrun, hv⟩ := (M6.out D hD).lookup lawK Tryz.underlying125 (zeroDs w6) (heldE_mk _) (keyOf_K (x := d.kind) HK.out.1 (by have := HK.out.2; omega))
    rw [hF.at_ d.kind, HF.out] at hv
    show _ = _
    rw [hrun, heldE_inv hv]
   have R7 : Hid (RS g q w jb mb (xs ++ [(⟨d, ao, c⟩ : DM)]) (fun y => if y = d.kind then .slice a6 n6 c6 else f y) w7) := RS.push (x := ⟨d, ao, c⟩) R5.out.1 R5.out.2.1 hg6 ho6 (fun D hD => by
    obtain ⟨w', h1, h2, h3⟩ := hD.update lawK Tryz.underlying125 HXL.out (keyOf_K (x := d.kind) HK.out.1 (by have := HK.out.2; omega)) (heldE_mk (.slice a6 n6 c6))
    have e : w' = w7 := by
     have := h1.symm.trans UP.out.1
     injection this
    subst e
    exact h2) UP.out.2
   have P7 : Hid (w7.heap[w3.heap.size]? = some (.cells #[.int .i64 d.look, .int .i64 d.kind, .int .i64 d.prod, .slice ao d.drop.length c, .bool d.sd, .int .i64 d.lev] 58 (0, 0))) := (UP.out.2.block _ (lt_of_block P6.out) (fun e => by
    obtain ⟨es, cl, hmo⟩ := R5.out.1.mapAt
    have e2 : w3.heap.size = mb := by simpa using e
    rw [<- e2, R5.out.2.2] at hmo
    cases hmo)).trans P6.out
   clear ho6 hg6
   refine hK.out _ _ (SX.both (HS.out _ P6.out) L6.out) ?_
   clear hK K'
   (try simp only [Act.put, lsA, lsZ, lsN])
   refine wpAnyX_one (j := 10) (by decide +kernel) rfl (fun K' hK => ?_)
   refine step_mapUpdate (by rfl) _ _ _ _ (by rfl) (.map (some mb)) (.int .i64 d.kind) (.slice a6 n6 c6) (by rfl) (by rfl) (by rfl) UP.out.1 ?_
   refine hK.out _ _ (SX.one (HS.out _ P7.out) (by kernel_rfl)) ?_
   clear hK K'
   (try simp only [Act.put, lsA, lsZ, lsN])
   refine wpAnyX_done (by decide +kernel) ?_
   clear hs HS HLk R3 R4 R5 R5n P6 M6 UP L6 P7 hsz5 HRS
   go_wp2
   go_roundw
   case rel => exact ⟨i + 1, _, _, by omega, by go_num, R7.out, HE2.out ao c⟩
   case measure => simp [intOf]; omega
  ·obtain rfl : i = q.red.length := by omega
   rw [List.take_length] at hE
   have ilt : ¬ (q.red.length : Int) < (q.red.length : Int) := by omega
   obtain ⟨a0, c0, e0, _⟩ := (hR.rows 0).len
   obtain ⟨a2, c2, e2, _⟩ := (hR.rows 2).len
   obtain ⟨a3, c3, e3, _⟩ := (hR.rows 3).len
   obtain ⟨a1, c1, e1, _⟩ := (hR.rows 1).len
   have HXN : xs.length = q.red.length := by have := congrArg List.length hE; rwa [List.length_map, List.length_map] at this
   have HLn : ∀ k, (kindM k xs).length <= 257 := fun k => by have h1 : (kindM k xs).length <= xs.length := List.length_filter_le _ _; omega
   have l0 := HLn 0
   have l1 := HLn 1
   have l2 := HLn 2
   have l3 := HLn 3
   have KD : ∀ k, kindD k (q.red.map fun p => decU g p.toNat q.look) = (kindM k xs).map DM.d := fun k => by rw [kindM_d, hE]
   have HKK : ∀ x ∈ xs, 0 <= x.d.kind /\ x.d.kind <= 3 := fun x hx => by
    have : x.d ∈ xs.map DM.d := List.mem_map_of_mem hx
    rw [hE] at this
    obtain ⟨p, _, e⟩ := List.mem_map.1 this
    rw [<- e]
    exact dec_kind g _ _
   obtain ⟨wd, hwd⟩ : ∃ wd : World, wd = wr.drew := ⟨_, rfl⟩
   have RD : Hid (RS g q w jb mb xs f wd) := by rw [hwd]; exact hR.later (Below.refl _ _).drew
   have lk0 := RD.out.look 0 (by decide) (by decide)
   have lk1 := RD.out.look 1 (by decide) (by decide)
   have lk2 := RD.out.look 2 (by decide) (by decide)
   have lk3 := RD.out.look 3 (by decide) (by decide)
   rw [e0] at lk0
   rw [e1] at lk1
   rw [e2] at lk2
   rw [e3] at lk3
   obtain ⟨y0, y1, y2, y3⟩ := cb_cells (q := q) RD.out.cb
   by_cases n0 : 0 < (kindM 0 xs).length
   ·have PK : Hid (pickD q.look q.red (q.red.map fun p => decU g p.toNat q.look) = noneD q.look) := by show _ = _; unfold pickD; rw [if_pos (by rw [KD 0, KD 2, List.length_map]; exact .inl (fun e => by rw [List.map_eq_nil_iff, <- List.length_eq_zero_iff] at e; omega))]
    have t0 : (0 : Int) < ((kindM 0 xs).length : Int) := by omega
    clear hE KD HKK
    go_wp2
    refine wp_region_s (by kernel_rfl) (by kernel_rfl) wd hwd ?_
    clear hwd
    refine st_yes (v := ?_) (by rfl) ?_ ?_
    rotate_left
    ·(go_simp; with_reducible rfl)
    (try simp only [Act.put, lsA, lsZ, lsN])
    refine st_yes (v := ?_) (by rfl) ?_ ?_
    rotate_left
    ·(go_simp; with_reducible rfl)
    (try simp only [Act.put, lsA, lsZ, lsN])
    refine st_yes (v := ?_) (by rfl) ?_ ?_
    rotate_left
    ·(go_simp; with_reducible rfl)
    (try simp only [Act.put, lsA, lsZ, lsN])
    refine st_yes (v := ?_) (by rfl) ?_ ?_
    rotate_left
    ·(go_simp; with_reducible rfl)
    (try simp only [Act.put, lsA, lsZ, lsN])
    refine st_yes (v := ?_) (by rfl) ?_ ?_
    rotate_left
    ·(go_simp; with_reducible rfl)
    (try simp only [Act.put, lsA, lsZ, lsN])
    refine st_yes (v := ?_) (by rfl) ?_ ?_
    rotate_left
    ·(go_simp; with_reducible rfl)
    (try simp only [Act.put, lsA, lsZ, lsN])
    refine st_nil ?_
    go_wp2_with (go_at_call 58; refine (und_P q.look _).mono ?_; rintro e w5 ⟨ao, c, rfl, d5, b5⟩; have RX : Hid (RS g q w jb mb xs f w5) := RD.out.later b5; have DX : Hid (D2 wd.heap.size w5 (noneD q.look) ao c) := d5.two; clear d5 b5; obtain ⟨⟨z0, z1, z2, z3, z4, z5⟩, ⟨f0, f1, f2, f3, f4, f5⟩, hzz⟩ := dz_cells RX.out.rb)
    obtain ⟨q1, q2, q3⟩ := six_set RX.out.rb (.int .i64 (noneD q.look).look) (.int .i64 (noneD q.look).kind) (.int .i64 (noneD q.look).prod) (.slice ao (noneD q.look).drop.length c) (.bool (noneD q.look).sd) (.int .i64 (noneD q.look).lev)
    have q4 := q3 _ _ RX.out.bel (Nat.le_succ _)
    have q5 : D2 w.heap.size ((((((w5.setCell ⟨w.heap.size + 1, 0, none⟩ (.int .i64 (noneD q.look).look)).setCell ⟨w.heap.size + 1, 1, none⟩ (.int .i64 (noneD q.look).kind)).setCell ⟨w.heap.size + 1, 2, none⟩ (.int .i64 (noneD q.look).prod)).setCell ⟨w.heap.size + 1, 3, none⟩ (.slice ao (noneD q.look).drop.length c)).setCell ⟨w.heap.size + 1, 4, none⟩ (.bool (noneD q.look).sd)).setCell ⟨w.heap.size + 1, 5, none⟩ (.int .i64 (noneD q.look).lev)) (noneD q.look) ao c := DX.out.kept (by have := lt_of_block RD.out.rb; omega) fun j hj => q2 j (by have := lt_of_block RD.out.rb; omega)
    generalize ((((((w5.setCell ⟨w.heap.size + 1, 0, none⟩ (.int .i64 (noneD q.look).look)).setCell ⟨w.heap.size + 1, 1, none⟩ (.int .i64 (noneD q.look).kind)).setCell ⟨w.heap.size + 1, 2, none⟩ (.int .i64 (noneD q.look).prod)).setCell ⟨w.heap.size + 1, 3, none⟩ (.slice ao (noneD q.look).drop.length c)).setCell ⟨w.heap.size + 1, 4, none⟩ (.bool (noneD q.look).sd)).setCell ⟨w.heap.size + 1, 5, none⟩ (.int .i64 (noneD q.look).lev)) = W4 at *
    have r0 : W4.cell? ⟨w.heap.size + 1, 0, none⟩ = some (.int .i64 (noneD q.look).look) := (cellq_any q1).trans rfl
    have r1 : W4.cell? ⟨w.heap.size + 1, 1, none⟩ = some (.int .i64 (noneD q.look).kind) := (cellq_any q1).trans rfl
    have r2 : W4.cell? ⟨w.heap.size + 1, 2, none⟩ = some (.int .i64 (noneD q.look).prod) := (cellq_any q1).trans rfl
    have r3 : W4.cell? ⟨w.heap.size + 1, 3, none⟩ = some (.slice ao (noneD q.look).drop.length c) := (cellq_any q1).trans rfl
    have r4 : W4.cell? ⟨w.heap.size + 1, 4, none⟩ = some (.bool (noneD q.look).sd) := (cellq_any q1).trans rfl
    have r5 : W4.cell? ⟨w.heap.size + 1, 5, none⟩ = some (.int .i64 (noneD q.look).lev) := (cellq_any q1).trans rfl
    refine bodyPost_ret (v := dval (noneD q.look) ao c) (by simp [results, Tryz.results22, go_sem, r0, r1, r2, r3, r4, r5]) rfl ?_
    rw [PK.out]
    exact ⟨ao, c, rfl, q5, q4⟩
   ·have n0' : (kindM 0 xs).length = 0 := by omega
    rw [n0'] at lk0 e0
    by_cases n2 : 1 < (kindM 2 xs).length
    ·have PK : Hid (pickD q.look q.red (q.red.map fun p => decU g p.toNat q.look) = noneD q.look) := by show _ = _; unfold pickD; rw [if_pos (by rw [KD 0, KD 2, List.length_map]; exact .inr n2)]
     have t2 : (1 : Int) < ((kindM 2 xs).length : Int) := by omega
     clear hE KD HKK
     go_wp2
     refine wp_region_s (by kernel_rfl) (by kernel_rfl) wd hwd ?_
     clear hwd
     refine st_yes (v := ?_) (by rfl) ?_ ?_
     rotate_left
     ·(go_simp; with_reducible rfl)
     (try simp only [Act.put, lsA, lsZ, lsN])
     refine st_yes (v := ?_) (by rfl) ?_ ?_
     rotate_left
     ·(go_simp; with_reducible rfl)
     (try simp only [Act.put, lsA, lsZ, lsN])
     refine st_yes (v := ?_) (by rfl) ?_ ?_
     rotate_left
     ·(go_simp; with_reducible rfl)
     (try simp only [Act.put, lsA, lsZ, lsN])
     refine st_yes (v := ?_) (by rfl) ?_ ?_
     rotate_left
     ·(go_simp; with_reducible rfl)
     (try simp only [Act.put, lsA, lsZ, lsN])
     refine st_yes (v := ?_) (by rfl) ?_ ?_
     rotate_left
     ·(go_simp; with_reducible rfl)
     (try simp only [Act.put, lsA, lsZ, lsN])
     refine st_yes (v := ?_) (by rfl) ?_ ?_
     rotate_left
     ·(go_simp; with_reducible rfl)
     (try simp only [Act.put, lsA, lsZ, lsN])
     refine st_nil ?_
     go_wp2_with (go_at_call 58; refine (und_P q.look _).mono ?_; rintro e w5 ⟨ao, c, rfl, d5, b5⟩; have RX : Hid (RS g q w jb mb xs f w5) := RD.out.later b5; have DX : Hid (D2 wd.heap.size w5 (noneD q.look) ao c) := d5.two; clear d5 b5; obtain ⟨⟨z0, z1, z2, z3, z4, z5⟩, ⟨f0, f1, f2, f3, f4, f5⟩, hzz⟩ := dz_cells RX.out.rb)
     obtain ⟨q1, q2, q3⟩ := six_set RX.out.rb (.int .i64 (noneD q.look).look) (.int .i64 (noneD q.look).kind) (.int .i64 (noneD q.look).prod) (.slice ao (noneD q.look).drop.length c) (.bool (noneD q.look).sd) (.int .i64 (noneD q.look).lev)
     have q4 := q3 _ _ RX.out.bel (Nat.le_succ _)
     have q5 : D2 w.heap.size ((((((w5.setCell ⟨w.heap.size + 1, 0, none⟩ (.int .i64 (noneD q.look).look)).setCell ⟨w.heap.size + 1, 1, none⟩ (.int .i64 (noneD q.look).kind)).setCell ⟨w.heap.size + 1, 2, none⟩ (.int .i64 (noneD q.look).prod)).setCell ⟨w.heap.size + 1, 3, none⟩ (.slice ao (noneD q.look).drop.length c)).setCell ⟨w.heap.size + 1, 4, none⟩ (.bool (noneD q.look).sd)).setCell ⟨w.heap.size + 1, 5, none⟩ (.int .i64 (noneD q.look).lev)) (noneD q.look) ao c := DX.out.kept (by have := lt_of_block RD.out.rb; omega) fun j hj => q2 j (by have := lt_of_block RD.out.rb; omega)
     generalize ((((((w5.setCell ⟨w.heap.size + 1, 0, none⟩ (.int .i64 (noneD q.look).look)).setCell ⟨w.heap.size + 1, 1, none⟩ (.int .i64 (noneD q.look).kind)).setCell ⟨w.heap.size + 1, 2, none⟩ (.int .i64 (noneD q.look).prod)).setCell ⟨w.heap.size + 1, 3, none⟩ (.slice ao (noneD q.look).drop.length c)).setCell ⟨w.heap.size + 1, 4, none⟩ (.bool (noneD q.look).sd)).setCell ⟨w.heap.size + 1, 5, none⟩ (.int .i64 (noneD q.look).lev)) = W4 at *
     have r0 : W4.cell? ⟨w.heap.size + 1, 0, none⟩ = some (.int .i64 (noneD q.look).look) := (cellq_any q1).trans rfl
     have r1 : W4.cell? ⟨w.heap.size + 1, 1, none⟩ = some (.int .i64 (noneD q.look).kind) := (cellq_any q1).trans rfl
     have r2 : W4.cell? ⟨w.heap.size + 1, 2, none⟩ = some (.int .i64 (noneD q.look).prod) := (cellq_any q1).trans rfl
     have r3 : W4.cell? ⟨w.heap.size + 1, 3, none⟩ = some (.slice ao (noneD q.look).drop.length c) := (cellq_any q1).trans rfl
     have r4 : W4.cell? ⟨w.heap.size + 1, 4, none⟩ = some (.bool (noneD q.look).sd) := (cellq_any q1).trans rfl
     have r5 : W4.cell? ⟨w.heap.size + 1, 5, none⟩ = some (.int .i64 (noneD q.look).lev) := (cellq_any q1).trans rfl
     refine bodyPost_ret (v := dval (noneD q.look) ao c) (by simp [results, Tryz.results22, go_sem, r0, r1, r2, r3, r4, r5]) rfl ?_
     rw [PK.out]
     exact ⟨ao, c, rfl, q5, q4⟩
    ·by_cases n2e : (kindM 2 xs).length = 1
     ·have n2 : 0 < (kindM 2 xs).length := by omega
      obtain ⟨x, rest, hx⟩ : ∃ x rest, kindM 2 xs = x :: rest := by
       cases hq : kindM 2 xs with
       | nil => rw [hq] at n2; simp at n2
       | cons x rest => exact ⟨x, rest, rfl⟩
      obtain ⟨kb, kc, ek, _, hcells⟩ := RO.cell (k := 6) (f := dCells) (fun _ => rfl) (hR.rows 2) (i := 0) (by rw [hx]; simp)
      have hx0 : (kindM 2 xs)[0]'(by rw [hx]; simp) = x := by simp [hx]
      rw [hx0] at hcells
      have hxm : x ∈ xs := (List.mem_filter.1 (show x ∈ kindM 2 xs by rw [hx]; simp)).1
      have ea : a2 = some ⟨kb, 0, none⟩ /\ c2 = kc := by rw [e2] at ek; simp only [Value.slice.injEq] at ek; exact ⟨ek.1, ek.2.2⟩
      obtain ⟨rfl, rfl⟩ := ea
      have hcd : ∀ j, j < 6 -> wd.cell? ⟨kb, j, none⟩ = (dCells x)[j]? := fun j hj => by
       have := hcells j hj
       rw [Nat.zero_mul, Nat.zero_add] at this
       rw [hwd]
       exact this
      have k0 := hcd 0 (by decide)
      have k1 := hcd 1 (by decide)
      have k2 := hcd 2 (by decide)
      have k3 := hcd 3 (by decide)
      have k4 := hcd 4 (by decide)
      have k5 := hcd 5 (by decide)
      simp only [dCells, List.getElem?_cons_zero, List.getElem?_cons_succ] at k0 k1 k2 k3 k4 k5
      obtain ⟨rb, ro, hra, hrb, hrc⟩ := HW.out wd RD.out.bel HNE.out
      have DRP : Hid (∀ wz, wz = wd.drew -> Calls Tryz.prog 60 #[dval x.d x.ao x.c, .slice (some ⟨rb, ro, none⟩) q.red.length q.rc] wz (DrO wz (dropD x.d q.red))) := fun wz e => by subst e; exact dropping_P x.d x.ao x.c rb ro q.rc q.red wd.drew (by omega) hrc hrb
      have PK : Hid (pickD q.look q.red (q.red.map fun p => decU g p.toNat q.look) = dropD x.d q.red) := by
       show _ = _
       unfold pickD
       rw [if_neg (by rw [KD 0, KD 2, List.length_map]; exact fun h' => h'.elim (fun h'' => h'' (by rw [List.map_eq_nil_iff, <- List.length_eq_zero_iff]; omega)) (fun h'' => by omega))]
       rw [KD 2, hx]
       rfl
      rw [n2e] at lk2 e2
      clear hE KD HKK hcells hcd
      go_wp2
      refine wp_region_s (by kernel_rfl) (by kernel_rfl) wd hwd ?_
      clear hwd
      refine st_yes (v := ?_) (by rfl) ?_ ?_
      rotate_left
      ·(go_simp; with_reducible rfl)
      (try simp only [Act.put, lsA, lsZ, lsN])
      refine st_yes (v := ?_) (by rfl) ?_ ?_
      rotate_left
      ·(go_simp; with_reducible rfl)
      (try simp only [Act.put, lsA, lsZ, lsN])
      refine st_yes (v := ?_) (by rfl) ?_ ?_
      rotate_left
      ·(go_simp; with_reducible rfl)
      (try simp only [Act.put, lsA, lsZ, lsN])
      refine st_yes (v := ?_) (by rfl) ?_ ?_
      rotate_left
      ·(go_simp; with_reducible rfl)
      (try simp only [Act.put, lsA, lsZ, lsN])
      refine st_yes (v := ?_) (by rfl) ?_ ?_
      rotate_left
      ·(go_simp; with_reducible rfl)
      (try simp only [Act.put, lsA, lsZ, lsN])
      refine st_yes (v := ?_) (by rfl) ?_ ?_
      rotate_left
      ·(go_simp; with_reducible rfl)
      (try simp only [Act.put, lsA, lsZ, lsN])
      refine st_nil ?_
      rw [hra] at y3
      obtain ⟨wz, hwz⟩ : ∃ wz : World, wz = wd.drew := ⟨_, rfl⟩
      have RZ : Hid (RS g q w jb mb xs f wz) := by rw [hwz]; exact RD.out.later (Below.refl _ _).drew
      have lz1 := RZ.out.look 1 (by decide) (by decide)
      rw [e1] at lz1
      obtain ⟨v0, v1, v2, v3⟩ := cb_cells (q := q) RZ.out.cb
      rw [hra] at v3
      rw [show wd.cell? = wz.cell? by rw [hwz]; rfl] at k0 k1 k2 k3 k4 k5
      have DR2 : Hid (Calls Tryz.prog 60 #[dval x.d x.ao x.c, .slice (some ⟨rb, ro, none⟩) q.red.length q.rc] wz (DrO wz (dropD x.d q.red))) := DRP.out wz hwz
      go_wp2
      refine wp_region_tail_s 5 (by kernel_rfl) (by kernel_rfl) wz hwz ?_
      clear hwz lk0 lk1 lk2 lk3 y0 y1 y2 y3
      simp only [List.take_succ_cons, List.take_zero, List.drop_succ_cons, List.drop_zero]
      refine st_yes (v := ?_) (by rfl) ?_ ?_
      rotate_left
      ·(go_simp; with_reducible rfl)
      (try simp only [Act.put, lsA, lsZ, lsN])
      refine st_yes (v := ?_) (by rfl) ?_ ?_
      rotate_left
      ·(go_simp; with_reducible rfl)
      (try simp only [Act.put, lsA, lsZ, lsN])
      refine st_yes (v := ?_) (by rfl) ?_ ?_
      rotate_left
      ·(go_simp; with_reducible rfl)
      (try simp only [Act.put, lsA, lsZ, lsN])
      refine st_yes (v := ?_) (by rfl) ?_ ?_
      rotate_left
      ·(go_simp; with_reducible rfl)
      (try simp only [Act.put, lsA, lsZ, lsN])
      refine st_yes (v := ?_) (by rfl) ?_ ?_
      rotate_left
      ·(go_simp; with_reducible rfl)
      (try simp only [Act.put, lsA, lsZ, lsN])
      refine st_nil ?_
      go_wp2_with (go_at_call 60; refine DR2.out.mono ?_; rintro e w5 ⟨ao, c, rfl, d5, b5⟩; have RX : Hid (RS g q w jb mb xs f w5) := RZ.out.later b5; have DX : Hid (D2 wz.heap.size w5 (dropD x.d q.red) ao c) := d5; clear d5 b5; obtain ⟨⟨z0, z1, z2, z3, z4, z5⟩, ⟨f0, f1, f2, f3, f4, f5⟩, hzz⟩ := dz_cells RX.out.rb)
      obtain ⟨q1, q2, q3⟩ := six_set RX.out.rb (.int .i64 (dropD x.d q.red).look) (.int .i64 (dropD x.d q.red).kind) (.int .i64 (dropD x.d q.red).prod) (.slice ao (dropD x.d q.red).drop.length c) (.bool (dropD x.d q.red).sd) (.int .i64 (dropD x.d q.red).lev)
      have q4 := q3 _ _ RX.out.bel (Nat.le_succ _)
      have q5 : D2 w.heap.size ((((((w5.setCell ⟨w.heap.size + 1, 0, none⟩ (.int .i64 (dropD x.d q.red).look)).setCell ⟨w.heap.size + 1, 1, none⟩ (.int .i64 (dropD x.d q.red).kind)).setCell ⟨w.heap.size + 1, 2, none⟩ (.int .i64 (dropD x.d q.red).prod)).setCell ⟨w.heap.size + 1, 3, none⟩ (.slice ao (dropD x.d q.red).drop.length c)).setCell ⟨w.heap.size + 1, 4, none⟩ (.bool (dropD x.d q.red).sd)).setCell ⟨w.heap.size + 1, 5, none⟩ (.int .i64 (dropD x.d q.red).lev)) (dropD x.d q.red) ao c := DX.out.kept (by have := lt_of_block RZ.out.rb; omega) fun j hj => q2 j (by have := lt_of_block RZ.out.rb; omega)
      generalize ((((((w5.setCell ⟨w.heap.size + 1, 0, none⟩ (.int .i64 (dropD x.d q.red).look)).setCell ⟨w.heap.size + 1, 1, none⟩ (.int .i64 (dropD x.d q.red).kind)).setCell ⟨w.heap.size + 1, 2, none⟩ (.int .i64 (dropD x.d q.red).prod)).setCell ⟨w.heap.size + 1, 3, none⟩ (.slice ao (dropD x.d q.red).drop.length c)).setCell ⟨w.heap.size + 1, 4, none⟩ (.bool (dropD x.d q.red).sd)).setCell ⟨w.heap.size + 1, 5, none⟩ (.int .i64 (dropD x.d q.red).lev)) = W4 at *
      have r0 : W4.cell? ⟨w.heap.size + 1, 0, none⟩ = some (.int .i64 (dropD x.d q.red).look) := (cellq_any q1).trans rfl
      have r1 : W4.cell? ⟨w.heap.size + 1, 1, none⟩ = some (.int .i64 (dropD x.d q.red).kind) := (cellq_any q1).trans rfl
      have r2 : W4.cell? ⟨w.heap.size + 1, 2, none⟩ = some (.int .i64 (dropD x.d q.red).prod) := (cellq_any q1).trans rfl
      have r3 : W4.cell? ⟨w.heap.size + 1, 3, none⟩ = some (.slice ao (dropD x.d q.red).drop.length c) := (cellq_any q1).trans rfl
      have r4 : W4.cell? ⟨w.heap.size + 1, 4, none⟩ = some (.bool (dropD x.d q.red).sd) := (cellq_any q1).trans rfl
      have r5 : W4.cell? ⟨w.heap.size + 1, 5, none⟩ = some (.int .i64 (dropD x.d q.red).lev) := (cellq_any q1).trans rfl
      refine bodyPost_ret (v := dval (dropD x.d q.red) ao c) (by simp [results, Tryz.results22, go_sem, r0, r1, r2, r3, r4, r5]) rfl ?_
      rw [PK.out]
      exact ⟨ao, c, rfl, q5, q4⟩
     ·have n2z : (kindM 2 xs).length = 0 := by omega
      have E2 : kindM 2 xs = [] := List.length_eq_zero_iff.1 n2z
      rw [n2z] at lk2 e2
      by_cases n3 : 0 < (kindM 3 xs).length
      ·obtain ⟨x, rest, hx⟩ : ∃ x rest, kindM 3 xs = x :: rest := by
        cases hq : kindM 3 xs with
        | nil => rw [hq] at n3; simp at n3
        | cons x rest => exact ⟨x, rest, rfl⟩
       obtain ⟨kb, kc, ek, _, hcells⟩ := RO.cell (k := 6) (f := dCells) (fun _ => rfl) (hR.rows 3) (i := 0) (by rw [hx]; simp)
       have hx0 : (kindM 3 xs)[0]'(by rw [hx]; simp) = x := by simp [hx]
       rw [hx0] at hcells
       have hxm : x ∈ xs := (List.mem_filter.1 (show x ∈ kindM 3 xs by rw [hx]; simp)).1
       have ea : a3 = some ⟨kb, 0, none⟩ /\ c3 = kc := by rw [e3] at ek; simp only [Value.slice.injEq] at ek; exact ⟨ek.1, ek.2.2⟩
       obtain ⟨rfl, rfl⟩ := ea
       have hcd : ∀ j, j < 6 -> wd.cell? ⟨kb, j, none⟩ = (dCells x)[j]? := fun j hj => by
        have := hcells j hj
        rw [Nat.zero_mul, Nat.zero_add] at this
        rw [hwd]
        exact this
       have k0 := hcd 0 (by decide)
       have k1 := hcd 1 (by decide)
       have k2 := hcd 2 (by decide)
       have k3 := hcd 3 (by decide)
       have k4 := hcd 4 (by decide)
       have k5 := hcd 5 (by decide)
       simp only [dCells, List.getElem?_cons_zero, List.getElem?_cons_succ] at k0 k1 k2 k3 k4 k5
       obtain ⟨rb, ro, hra, hrb, hrc⟩ := HW.out wd RD.out.bel HNE.out
       have DRP : Hid (∀ wz, wz = wd.drew -> Calls Tryz.prog 60 #[dval x.d x.ao x.c, .slice (some ⟨rb, ro, none⟩) q.red.length q.rc] wz (DrO wz (dropD x.d q.red))) := fun wz e => by subst e; exact dropping_P x.d x.ao x.c rb ro q.rc q.red wd.drew (by omega) hrc hrb
       have PK : Hid (pickD q.look q.red (q.red.map fun p => decU g p.toNat q.look) = dropD x.d q.red) := by
        show _ = _
        unfold pickD
        rw [if_neg (by rw [KD 0, KD 2, List.length_map]; exact fun h' => h'.elim (fun h'' => h'' (by rw [List.map_eq_nil_iff, <- List.length_eq_zero_iff]; omega)) (fun h'' => by omega))]
        rw [KD 2, E2]
        simp only [List.map_nil]
        rw [KD 3, hx]
        rfl
       have t3 : (0 : Int) < ((kindM 3 xs).length : Int) := by omega
       clear hE KD HKK hcells hcd
       go_wp2
       refine wp_region_s (by kernel_rfl) (by kernel_rfl) wd hwd ?_
       clear hwd
       refine st_yes (v := ?_) (by rfl) ?_ ?_
       rotate_left
       ·(go_simp; with_reducible rfl)
       (try simp only [Act.put, lsA, lsZ, lsN])
       refine st_yes (v := ?_) (by rfl) ?_ ?_
       rotate_left
       ·(go_simp; with_reducible rfl)
       (try simp only [Act.put, lsA, lsZ, lsN])
       refine st_yes (v := ?_) (by rfl) ?_ ?_
       rotate_left
       ·(go_simp; with_reducible rfl)
       (try simp only [Act.put, lsA, lsZ, lsN])
       refine st_yes (v := ?_) (by rfl) ?_ ?_
       rotate_left
       ·(go_simp; with_reducible rfl)
       (try simp only [Act.put, lsA, lsZ, lsN])
       refine st_yes (v := ?_) (by rfl) ?_ ?_
       rotate_left
       ·(go_simp; with_reducible rfl)
       (try simp only [Act.put, lsA, lsZ, lsN])
       refine st_yes (v := ?_) (by rfl) ?_ ?_
       rotate_left
       ·(go_simp; with_reducible rfl)
       (try simp only [Act.put, lsA, lsZ, lsN])
       refine st_nil ?_
       rw [hra] at y3
       obtain ⟨wz, hwz⟩ : ∃ wz : World, wz = wd.drew := ⟨_, rfl⟩
       have RZ : Hid (RS g q w jb mb xs f wz) := by rw [hwz]; exact RD.out.later (Below.refl _ _).drew
       have lz1 := RZ.out.look 1 (by decide) (by decide)
       rw [e1] at lz1
       obtain ⟨v0, v1, v2, v3⟩ := cb_cells (q := q) RZ.out.cb
       rw [hra] at v3
       rw [show wd.cell? = wz.cell? by rw [hwz]; rfl] at k0 k1 k2 k3 k4 k5
       have DR2 : Hid (Calls Tryz.prog 60 #[dval x.d x.ao x.c, .slice (some ⟨rb, ro, none⟩) q.red.length q.rc] wz (DrO wz (dropD x.d q.red))) := DRP.out wz hwz
       go_wp2
       refine wp_region_tail_s 5 (by kernel_rfl) (by kernel_rfl) wz hwz ?_
       clear hwz lk0 lk1 lk2 lk3 y0 y1 y2 y3
       simp only [List.take_succ_cons, List.take_zero, List.drop_succ_cons, List.drop_zero]
       refine st_yes (v := ?_) (by rfl) ?_ ?_
       rotate_left
       ·(go_simp; with_reducible rfl)
       (try simp only [Act.put, lsA, lsZ, lsN])
       refine st_yes (v := ?_) (by rfl) ?_ ?_
       rotate_left
       ·(go_simp; with_reducible rfl)
       (try simp only [Act.put, lsA, lsZ, lsN])
       refine st_yes (v := ?_) (by rfl) ?_ ?_
       rotate_left
       ·(go_simp; with_reducible rfl)
       (try simp only [Act.put, lsA, lsZ, lsN])
       refine st_yes (v := ?_) (by rfl) ?_ ?_
       rotate_left
       ·(go_simp; with_reducible rfl)
       (try simp only [Act.put, lsA, lsZ, lsN])
       refine st_yes (v := ?_) (by rfl) ?_ ?_
       rotate_left
       ·(go_simp; with_reducible rfl)
       (try simp only [Act.put, lsA, lsZ, lsN])
       refine st_nil ?_
       go_wp2_with (go_at_call 60; refine DR2.out.mono ?_; rintro e w5 ⟨ao, c, rfl, d5, b5⟩; have RX : Hid (RS g q w jb mb xs f w5) := RZ.out.later b5; have DX : Hid (D2 wz.heap.size w5 (dropD x.d q.red) ao c) := d5; clear d5 b5; obtain ⟨⟨z0, z1, z2, z3, z4, z5⟩, ⟨f0, f1, f2, f3, f4, f5⟩, hzz⟩ := dz_cells RX.out.rb)
       obtain ⟨q1, q2, q3⟩ := six_set RX.out.rb (.int .i64 (dropD x.d q.red).look) (.int .i64 (dropD x.d q.red).kind) (.int .i64 (dropD x.d q.red).prod) (.slice ao (dropD x.d q.red).drop.length c) (.bool (dropD x.d q.red).sd) (.int .i64 (dropD x.d q.red).lev)
       have q4 := q3 _ _ RX.out.bel (Nat.le_succ _)
       have q5 : D2 w.heap.size ((((((w5.setCell ⟨w.heap.size + 1, 0, none⟩ (.int .i64 (dropD x.d q.red).look)).setCell ⟨w.heap.size + 1, 1, none⟩ (.int .i64 (dropD x.d q.red).kind)).setCell ⟨w.heap.size + 1, 2, none⟩ (.int .i64 (dropD x.d q.red).prod)).setCell ⟨w.heap.size + 1, 3, none⟩ (.slice ao (dropD x.d q.red).drop.length c)).setCell ⟨w.heap.size + 1, 4, none⟩ (.bool (dropD x.d q.red).sd)).setCell ⟨w.heap.size + 1, 5, none⟩ (.int .i64 (dropD x.d q.red).lev)) (dropD x.d q.red) ao c := DX.out.kept (by have := lt_of_block RZ.out.rb; omega) fun j hj => q2 j (by have := lt_of_block RZ.out.rb; omega)
       generalize ((((((w5.setCell ⟨w.heap.size + 1, 0, none⟩ (.int .i64 (dropD x.d q.red).look)).setCell ⟨w.heap.size + 1, 1, none⟩ (.int .i64 (dropD x.d q.red).kind)).setCell ⟨w.heap.size + 1, 2, none⟩ (.int .i64 (dropD x.d q.red).prod)).setCell ⟨w.heap.size + 1, 3, none⟩ (.slice ao (dropD x.d q.red).drop.length c)).setCell ⟨w.heap.size + 1, 4, none⟩ (.bool (dropD x.d q.red).sd)).setCell ⟨w.heap.size + 1, 5, none⟩ (.int .i64 (dropD x.d q.red).lev)) = W4 at *
       have r0 : W4.cell? ⟨w.heap.size + 1, 0, none⟩ = some (.int .i64 (dropD x.d q.red).look) := (cellq_any q1).trans rfl
       have r1 : W4.cell? ⟨w.heap.size + 1, 1, none⟩ = some (.int .i64 (dropD x.d q.red).kind) := (cellq_any q1).trans rfl
       have r2 : W4.cell? ⟨w.heap.size + 1, 2, none⟩ = some (.int .i64 (dropD x.d q.red).prod) := (cellq_any q1).trans rfl
       have r3 : W4.cell? ⟨w.heap.size + 1, 3, none⟩ = some (.slice ao (dropD x.d q.red).drop.length c) := (cellq_any q1).trans rfl
       have r4 : W4.cell? ⟨w.heap.size + 1, 4, none⟩ = some (.bool (dropD x.d q.red).sd) := (cellq_any q1).trans rfl
       have r5 : W4.cell? ⟨w.heap.size + 1, 5, none⟩ = some (.int .i64 (dropD x.d q.red).lev) := (cellq_any q1).trans rfl
       refine bodyPost_ret (v := dval (dropD x.d q.red) ao c) (by simp [results, Tryz.results22, go_sem, r0, r1, r2, r3, r4, r5]) rfl ?_
       rw [PK.out]
       exact ⟨ao, c, rfl, q5, q4⟩
      ·have n3z : (kindM 3 xs).length = 0 := by omega
       have E3 : kindM 3 xs = [] := List.length_eq_zero_iff.1 n3z
       have E0 : kindM 0 xs = [] := List.length_eq_zero_iff.1 n0'
       rw [n3z] at lk3 e3
       have n1 : 0 < (kindM 1 xs).length := by
        obtain ⟨x, hx⟩ : ∃ x, x ∈ xs := by
         cases hq : xs with
         | nil => rw [hq] at HXN; exact absurd (List.length_eq_zero_iff.1 HXN.symm) HNE.out
         | cons x r => exact ⟨x, by simp⟩
        have hk := HKK x hx
        have no : ∀ k, kindM k xs = [] -> x.d.kind ≠ k := fun k e e' => by
         have : x ∈ kindM k xs := List.mem_filter.2 ⟨hx, by simpa using e'⟩
         rw [e] at this
         cases this
        have a0' := no 0 E0
        have a2' := no 2 E2
        have a3' := no 3 E3
        have : x ∈ kindM 1 xs := List.mem_filter.2 ⟨hx, by simp; omega⟩
        exact List.length_pos_of_mem this
       obtain ⟨x, rest, hx⟩ : ∃ x rest, kindM 1 xs = x :: rest := by
        cases hq : kindM 1 xs with
        | nil => rw [hq] at n1; simp at n1
        | cons x rest => exact ⟨x, rest, rfl⟩
       obtain ⟨kb, kc, ek, _, hcells⟩ := RO.cell (k := 6) (f := dCells) (fun _ => rfl) (hR.rows 1) (i := 0) (by rw [hx]; simp)
       have hx0 : (kindM 1 xs)[0]'(by rw [hx]; simp) = x := by simp [hx]
       rw [hx0] at hcells
       have hxm : x ∈ xs := (List.mem_filter.1 (show x ∈ kindM 1 xs by rw [hx]; simp)).1
       have ea : a1 = some ⟨kb, 0, none⟩ /\ c1 = kc := by rw [e1] at ek; simp only [Value.slice.injEq] at ek; exact ⟨ek.1, ek.2.2⟩
       obtain ⟨rfl, rfl⟩ := ea
       have hcd : ∀ j, j < 6 -> wd.cell? ⟨kb, j, none⟩ = (dCells x)[j]? := fun j hj => by
        have := hcells j hj
        rw [Nat.zero_mul, Nat.zero_add] at this
        rw [hwd]
        exact this
       have k0 := hcd 0 (by decide)
       have k1 := hcd 1 (by decide)
       have k2 := hcd 2 (by decide)
       have k3 := hcd 3 (by decide)
       have k4 := hcd 4 (by decide)
       have k5 := hcd 5 (by decide)
       simp only [dCells, List.getElem?_cons_zero, List.getElem?_cons_succ] at k0 k1 k2 k3 k4 k5
       obtain ⟨rb, ro, hra, hrb, hrc⟩ := HW.out wd RD.out.bel HNE.out
       have DRP : Hid (∀ wz, wz = wd.drew -> Calls Tryz.prog 60 #[dval x.d x.ao x.c, .slice (some ⟨rb, ro, none⟩) q.red.length q.rc] wz (DrO wz (dropD x.d q.red))) := fun wz e => by subst e; exact dropping_P x.d x.ao x.c rb ro q.rc q.red wd.drew (by omega) hrc hrb
       have PK : Hid (pickD q.look q.red (q.red.map fun p => decU g p.toNat q.look) = dropD x.d q.red) := by
        show _ = _
        unfold pickD
        rw [if_neg (by rw [KD 0, KD 2, List.length_map]; exact fun h' => h'.elim (fun h'' => h'' (by rw [List.map_eq_nil_iff, <- List.length_eq_zero_iff]; omega)) (fun h'' => by omega))]
        rw [KD 2, E2]
        simp only [List.map_nil]
        rw [KD 3, E3]
        simp only [List.map_nil]
        rw [KD 1, hx]
        rfl
       clear hE KD HKK hcells hcd
       go_wp2
       refine wp_region_s (by kernel_rfl) (by kernel_rfl) wd hwd ?_
       clear hwd
       refine st_yes (v := ?_) (by rfl) ?_ ?_
       rotate_left
       ·(go_simp; with_reducible rfl)
       (try simp only [Act.put, lsA, lsZ, lsN])
       refine st_yes (v := ?_) (by rfl) ?_ ?_
       rotate_left
       ·(go_simp; with_reducible rfl)
       (try simp only [Act.put, lsA, lsZ, lsN])
       refine st_yes (v := ?_) (by rfl) ?_ ?_
       rotate_left
       ·(go_simp; with_reducible rfl)
       (try simp only [Act.put, lsA, lsZ, lsN])
       refine st_yes (v := ?_) (by rfl) ?_ ?_
       rotate_left
       ·(go_simp; with_reducible rfl)
       (try simp only [Act.put, lsA, lsZ, lsN])
       refine st_yes (v := ?_) (by rfl) ?_ ?_
       rotate_left
       ·(go_simp; with_reducible rfl)
       (try simp only [Act.put, lsA, lsZ, lsN])
       refine st_yes (v := ?_) (by rfl) ?_ ?_
       rotate_left
       ·(go_simp; with_reducible rfl)
       (try simp only [Act.put, lsA, lsZ, lsN])
       refine st_nil ?_
       rw [hra] at y3
       obtain ⟨wz, hwz⟩ : ∃ wz : World, wz = wd.drew := ⟨_, rfl⟩
       have RZ : Hid (RS g q w jb mb xs f wz) := by rw [hwz]; exact RD.out.later (Below.refl _ _).drew
       have lz1 := RZ.out.look 1 (by decide) (by decide)
       rw [e1] at lz1
       obtain ⟨v0, v1, v2, v3⟩ := cb_cells (q := q) RZ.out.cb
       rw [hra] at v3
       rw [show wd.cell? = wz.cell? by rw [hwz]; rfl] at k0 k1 k2 k3 k4 k5
       have DR2 : Hid (Calls Tryz.prog 60 #[dval x.d x.ao x.c, .slice (some ⟨rb, ro, none⟩) q.red.length q.rc] wz (DrO wz (dropD x.d q.red))) := DRP.out wz hwz
       go_wp2
       refine wp_region_tail_s 6 (by kernel_rfl) (by kernel_rfl) wz hwz ?_
       clear hwz lk0 lk1 lk2 lk3 y0 y1 y2 y3
       simp only [List.take_succ_cons, List.take_zero, List.drop_succ_cons, List.drop_zero]
       refine st_yes (v := ?_) (by rfl) ?_ ?_
       rotate_left
       ·(go_simp; with_reducible rfl)
       (try simp only [Act.put, lsA, lsZ, lsN])
       refine st_yes (v := ?_) (by rfl) ?_ ?_
       rotate_left
       ·(go_simp; with_reducible rfl)
       (try simp only [Act.put, lsA, lsZ, lsN])
       refine st_yes (v := ?_) (by rfl) ?_ ?_
       rotate_left
       ·(go_simp; with_reducible rfl)
       (try simp only [Act.put, lsA, lsZ, lsN])
       refine st_yes (v := ?_) (by rfl) ?_ ?_
       rotate_left
       ·(go_simp; with_reducible rfl)
       (try simp only [Act.put, lsA, lsZ, lsN])
       refine st_yes (v := ?_) (by rfl) ?_ ?_
       rotate_left
       ·(go_simp; with_reducible rfl)
       (try simp only [Act.put, lsA, lsZ, lsN])
       refine st_yes (v := ?_) (by rfl) ?_ ?_
       rotate_left
       ·(go_simp; with_reducible rfl)
       (try simp only [Act.put, lsA, lsZ, lsN])
       refine st_nil ?_
       go_wp2_with (go_at_call 60; refine DR2.out.mono ?_; rintro e w5 ⟨ao, c, rfl, d5, b5⟩; have RX : Hid (RS g q w jb mb xs f w5) := RZ.out.later b5; have DX : Hid (D2 wz.heap.size w5 (dropD x.d q.red) ao c) := d5; clear d5 b5; obtain ⟨⟨z0, z1, z2, z3, z4, z5⟩, ⟨f0, f1, f2, f3, f4, f5⟩, hzz⟩ := dz_cells RX.out.rb)
       obtain ⟨q1, q2, q3⟩ := six_set RX.out.rb (.int .i64 (dropD x.d q.red).look) (.int .i64 (dropD x.d q.red).kind) (.int .i64 (dropD x.d q.red).prod) (.slice ao (dropD x.d q.red).drop.length c) (.bool (dropD x.d q.red).sd) (.int .i64 (dropD x.d q.red).lev)
       have q4 := q3 _ _ RX.out.bel (Nat.le_succ _)
       have q5 : D2 w.heap.size ((((((w5.setCell ⟨w.heap.size + 1, 0, none⟩ (.int .i64 (dropD x.d q.red).look)).setCell ⟨w.heap.size + 1, 1, none⟩ (.int .i64 (dropD x.d q.red).kind)).setCell ⟨w.heap.size + 1, 2, none⟩ (.int .i64 (dropD x.d q.red).prod)).setCell ⟨w.heap.size + 1, 3, none⟩ (.slice ao (dropD x.d q.red).drop.length c)).setCell ⟨w.heap.size + 1, 4, none⟩ (.bool (dropD x.d q.red).sd)).setCell ⟨w.heap.size + 1, 5, none⟩ (.int .i64 (dropD x.d q.red).lev)) (dropD x.d q.red) ao c := DX.out.kept (by have := lt_of_block RZ.out.rb; omega) fun j hj => q2 j (by have := lt_of_block RZ.out.rb; omega)
       generalize ((((((w5.setCell ⟨w.heap.size + 1, 0, none⟩ (.int .i64 (dropD x.d q.red).look)).setCell ⟨w.heap.size + 1, 1, none⟩ (.int .i64 (dropD x.d q.red).kind)).setCell ⟨w.heap.size + 1, 2, none⟩ (.int .i64 (dropD x.d q.red).prod)).setCell ⟨w.heap.size + 1, 3, none⟩ (.slice ao (dropD x.d q.red).drop.length c)).setCell ⟨w.heap.size + 1, 4, none⟩ (.bool (dropD x.d q.red).sd)).setCell ⟨w.heap.size + 1, 5, none⟩ (.int .i64 (dropD x.d q.red).lev)) = W4 at *
       have r0 : W4.cell? ⟨w.heap.size + 1, 0, none⟩ = some (.int .i64 (dropD x.d q.red).look) := (cellq_any q1).trans rfl
       have r1 : W4.cell? ⟨w.heap.size + 1, 1, none⟩ = some (.int .i64 (dropD x.d q.red).kind) := (cellq_any q1).trans rfl
       have r2 : W4.cell? ⟨w.heap.size + 1, 2, none⟩ = some (.int .i64 (dropD x.d q.red).prod) := (cellq_any q1).trans rfl
       have r3 : W4.cell? ⟨w.heap.size + 1, 3, none⟩ = some (.slice ao (dropD x.d q.red).drop.length c) := (cellq_any q1).trans rfl
       have r4 : W4.cell? ⟨w.heap.size + 1, 4, none⟩ = some (.bool (dropD x.d q.red).sd) := (cellq_any q1).trans rfl
       have r5 : W4.cell? ⟨w.heap.size + 1, 5, none⟩ = some (.int .i64 (dropD x.d q.red).lev) := (cellq_any q1).trans rfl
       refine bodyPost_ret (v := dval (dropD x.d q.red) ao c) (by simp [results, Tryz.results22, go_sem, r0, r1, r2, r3, r4, r5]) rfl ?_
       rw [PK.out]
       exact ⟨ao, c, rfl, q5, q4⟩
end Go.Proofs.YtjpknihkcndoiaaGreat
