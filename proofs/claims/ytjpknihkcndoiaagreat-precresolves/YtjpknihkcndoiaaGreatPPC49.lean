import Derived.Test.YtjpknihkcndoiaaGreatPPC47ToPC48
import Derived.Test.YtjpknihkcndoiaaGreatPPC25ToPC26
import Derived.Deep.DeepCutAuto
namespace Go.Proofs.YtjpknihkcndoiaaGreat
set_option linter.unusedVariables false
set_option maxRecDepth 100000
set_option maxHeartbeats 16000000
open Go.RowKit Go.Maps
theorem RV.lt {g : GV} {q : CV} {w wr : World} {nb : Nat} (h : RV g q w nb wr) : w.heap.size + 1 + 1 < wr.heap.size /\ nb < wr.heap.size := ⟨lt_of_block h.rb, lt_of_block h.nb⟩
structure RL (g : GV) (q : CV) (w : World) (nb b : Nat) (lev : Int) (l : List Int) (v : Value) (wr : World) : Prop where
 rv : RV g q w nb wr
 bx : wr.heap[b]? = some (.cells #[.int .i64 q.look, .int .i64 1, .int .i64 (-1), v, .bool false, .int .i64 lev] 58 (0, 0))
 ro : RO 3 1 inC wr v l
 own : ∀ j, v.ownBlock = some j -> b < j
 lt : w.heap.size + 1 + 1 < b /\ nb < b
theorem RL.later {g : GV} {q : CV} {w wr w' : World} {nb b : Nat} {lev : Int} {l : List Int} {v : Value} (h : RL g q w nb b lev l v wr) (hb : Below wr.heap.size wr w') : RL g q w nb b lev l v w' := ⟨h.rv.later hb, blk_later h.bx hb, h.ro.later hb, h.own, h.lt⟩
theorem RL.push {g : GV} {q : CV} {w wr w6 : World} {nb b : Nat} {lev p : Int} {l : List Int} {v v' : Value} (h : RL g q w nb b lev l v wr) (ho : RO 3 1 inC w6 v' (l ++ [p])) (hg : Grew wr w6 v v') :
  RL g q w nb b lev (l ++ [p]) v' (w6.setCell ⟨b, 3, none⟩ v') /\ RV g q w nb w6 /\ w6.cell? ⟨b, 3, none⟩ = some v /\ w6.frozen? ⟨b, 3, none⟩ = false := by
 have k1 := lt_of_block h.bx
 have hz := hg.grown.size
 have keep : ∀ j, j <= b -> w6.heap[j]? = wr.heap[j]? := fun j hj => hg.grown.block j (by omega) (fun e => by have := h.own j e.symm; omega)
 have hnew : ∀ j, v'.ownBlock = some j -> b < j := fun j hj => by
  rcases hg.moved with e | ⟨k, e, hk⟩
  ·exact h.own j (by rw [<- e]; exact hj)
  ·rw [e] at hj
   simp at hj
   omega
 have l1 := h.lt
 have r6 : RV g q w nb w6 := ⟨(keep _ (by omega)).trans h.rv.gb, (keep _ (by omega)).trans h.rv.cb, (keep _ (by omega)).trans h.rv.rb, (keep _ (by omega)).trans h.rv.nb, hg.below h.rv.bel (Nat.le_refl _) (fun j hj => by have := h.own j hj; omega)⟩
 have b6 := (keep b (Nat.le_refl _)).trans h.bx
 have hne : ∀ j, j ≠ b -> (w6.setCell ⟨b, 3, none⟩ v').heap[j]? = w6.heap[j]? := fun j hj => setj_ne hj
 refine ⟨⟨⟨(hne _ (by omega)).trans r6.gb, (hne _ (by omega)).trans r6.cb, (hne _ (by omega)).trans r6.rb, (hne _ (by omega)).trans r6.nb, r6.bel.setCell (p := ⟨b, 3, none⟩) (show w.heap.size <= b by omega) _⟩, (heap_set b6 3 v').trans rfl, ho.kept (fun j hj => hne j (by have := hnew j hj; omega)), hnew, h.lt⟩, r6, (cellq_any b6).trans rfl, frostS b6 3⟩
structure RE (g : GV) (q : CV) (w : World) (nb b : Nat) (C : Array Value) (l : List Int) (v : Value) (wr : World) : Prop where
 rv : RV g q w nb wr
 bx : wr.heap[b]? = some (.cells C 58 (0, 0))
 ro : RO 3 1 inC wr v l
 own : ∀ j, v.ownBlock = some j -> b < j
 lt : w.heap.size + 1 + 1 < b /\ nb < b
theorem RL.re {g : GV} {q : CV} {w wr : World} {nb b : Nat} {lev : Int} {l : List Int} {v : Value} (h : RL g q w nb b lev l v wr) : RE g q w nb b #[.int .i64 q.look, .int .i64 1, .int .i64 (-1), v, .bool false, .int .i64 lev] l v wr := ⟨h.rv, h.bx, h.ro, h.own, h.lt⟩
theorem RE.set {g : GV} {q : CV} {w wr : World} {nb b : Nat} {C : Array Value} {l : List Int} {v : Value} (h : RE g q w nb b C l v wr) (i : Nat) (u : Value) : RE g q w nb b (C.setIfInBounds i u) l v (wr.setCell ⟨b, i, none⟩ u) := by
 have hne : ∀ j, j ≠ b -> (wr.setCell ⟨b, i, none⟩ u).heap[j]? = wr.heap[j]? := fun j hj => setj_ne hj
 have l1 := h.lt
 exact ⟨⟨(hne _ (by omega)).trans h.rv.gb, (hne _ (by omega)).trans h.rv.cb, (hne _ (by omega)).trans h.rv.rb, (hne _ (by omega)).trans h.rv.nb, h.rv.bel.setCell (p := ⟨b, i, none⟩) (show w.heap.size <= b by omega) _⟩, heap_set h.bx i u, h.ro.kept (fun j hj => hne j (by have := h.own j hj; omega)), h.own, h.lt⟩
theorem RE.ne {g : GV} {q : CV} {w wr : World} {nb b : Nat} {C : Array Value} {l : List Int} {v : Value} (h : RE g q w nb b C l v wr) {j : Nat} (hj : v.ownBlock = some j) : j ≠ w.heap.size + 1 + 1 := by
 have := h.own j hj
 have := h.lt
 omega
theorem RE.big {g : GV} {q : CV} {w wr : World} {nb b : Nat} {C : Array Value} {l : List Int} {v : Value} (h : RE g q w nb b C l v wr) {j : Nat} (hj : v.ownBlock = some j) : w.heap.size <= j := by
 have := h.own j hj
 have := h.lt
 omega
theorem RO.rwo {n : Nat} {w : World} {a : Option Addr} {m c : Nat} {l : List Int} (h : RO 3 1 inC w (.slice a m c) l) (ho : ∀ j, (Value.slice a m c).ownBlock = some j -> n <= j) : RwO n w a l := by
 refine ⟨h.inrow, fun hn => ?_⟩
 obtain ⟨b, c', e, _, _⟩ := RO.cell (f := inC) (k := 1) (fun _ => rfl) h (i := 0) (List.length_pos_iff.2 hn)
 rw [e] at ho
 simp only [Value.slice.injEq] at e
 exact ⟨b, 0, e.1, ho b rfl⟩
theorem RO.vn {α : Type} {τ : TypeId} {k : Nat} {f : α -> List Value} {w : World} {a : Option Addr} {n c : Nat} {l : List α} (h : RO τ k f w (.slice a n c) l) : n = l.length := by
 obtain ⟨a', c', e, _⟩ := h.len
 simp only [Value.slice.injEq] at e
 exact e.2.1
theorem take_filt {l : List Int} {i : Nat} (h : i < l.length) (p : Int -> Bool) : (l.take (i + 1)).filter p = (l.take i).filter p ++ if p (l.getD i 0) then [l.getD i 0] else [] := by
 rw [List.take_add_one, List.getElem?_eq_getElem h, List.getD_eq_getElem?_getD, List.getElem?_eq_getElem h, List.filter_append]
 simp only [Option.toList_some, Option.getD_some]
 cases e : p l[i] <;> simp [List.filter, e]
theorem RV.six {g : GV} {q : CV} {w w0 wr : World} {nb b : Nat} (h0 : RV g q w nb w0) (hb : w0.heap.size <= b) (h : RV g q w nb wr) (hz : wr.heap[b]? = some (.cells #[.int .i64 0, .int .i64 0, .int .i64 0, .slice none 0 0, .bool false, .int .i64 0] 58 (0, 0))) (v0 v1 v2 v3 v4 v5 : Value) : RV g q w nb ((((((wr.setCell ⟨b, 0, none⟩ v0).setCell ⟨b, 1, none⟩ v1).setCell ⟨b, 2, none⟩ v2).setCell ⟨b, 3, none⟩ v3).setCell ⟨b, 4, none⟩ v4).setCell ⟨b, 5, none⟩ v5) /\ ((((((wr.setCell ⟨b, 0, none⟩ v0).setCell ⟨b, 1, none⟩ v1).setCell ⟨b, 2, none⟩ v2).setCell ⟨b, 3, none⟩ v3).setCell ⟨b, 4, none⟩ v4).setCell ⟨b, 5, none⟩ v5).heap[b]? = some (.cells #[v0, v1, v2, v3, v4, v5] 58 (0, 0)) := by
 obtain ⟨q1, q2, q3⟩ := six_set hz v0 v1 v2 v3 v4 v5
 have k1 := lt_of_block h0.gb
 have k2 := lt_of_block h0.cb
 have k3 := lt_of_block h0.rb
 have k4 := lt_of_block h0.nb
 have k5 := h0.bel.size
 exact ⟨⟨(q2 _ (by omega)).trans h.gb, (q2 _ (by omega)).trans h.cb, (q2 _ (by omega)).trans h.rb, (q2 _ (by omega)).trans h.nb, q3 _ _ h.bel (by omega)⟩, q1⟩
theorem run_call3 {f : FuncId} (eg : ∀ args w, (callFunc f args).run Tryz.prog w = .ok (.enter f args) w) {o : Oper} {a : Act} {t0 t1 t2 : TypeId} {v0 v1 v2 : Value} {x0 x1 x2 : Operand} (hop : o.op = Op.call { callee := Callee.value (Operand.func f), args := #[x0, x1, x2], argTypes := #[t0, t1, t2] }) (h0 : a.eval x0 = v0) (h1 : a.eval x1 = v1) (h2 : a.eval x2 = v2) {w : World} : (execOp a.eval o).run Tryz.prog w = .ok (.enter f #[v0, v1, v2]) w := by
 have hf : a.eval (Operand.func f) = .func (.func f) #[] #[] := rfl
 simp [execOp, hop, resolve, invoke, hf, h0, h1, h2, Deferred.ofValue, eg]
theorem pickA {P : Program} {ops : Array Oper} {Q : Exit -> Act -> World -> Prop} {md : Region.Mode} {S : Array Bool -> World -> Prop} {i j : Nat} {fuel : Nat} {listed : Array Bool} {a : Act} {w : World} {oi oj : Oper} (hr : Region.ready md ops listed = [i, j]) (hi : ops.toList[i]? = some oi) (hj : ops.toList[j]? = some oj)
  (h1 : ∀ K' : Act -> World -> Prop, Shut (∀ a' w', S (listed.setIfInBounds i true) w' -> wpAnyX P md ops Q S fuel (listed.setIfInBounds i true) a' w' -> K' a' w') -> if Region.wanted oi (yielded ops a.tmps) = true then Oper.wp P oi a w K' Q else K' (a.put oi.dst undef) w)
  (h2 : ∀ K' : Act -> World -> Prop, Shut (∀ a' w', S (listed.setIfInBounds j true) w' -> wpAnyX P md ops Q S fuel (listed.setIfInBounds j true) a' w' -> K' a' w') -> if Region.wanted oj (yielded ops a.tmps) = true then Oper.wp P oj a w K' Q else K' (a.put oj.dst undef) w) :
  wpAnyX P md ops Q S (fuel + 1) listed a w := by
 refine ⟨fun h0 => (by rw [hr] at h0; cases h0), fun k hk => ?_⟩
 rw [hr] at hk
 simp only [List.mem_cons, List.not_mem_nil, or_false] at hk
 rcases hk with rfl | rfl
 ·exact wpOp_step (by rw [<- Array.getElem?_toList]; exact hi) (fun K' hK => h1 K' (fun a' w' hS hW => hK a' w' ⟨hS, hW⟩))
 ·exact wpOp_step (by rw [<- Array.getElem?_toList]; exact hj) (fun K' hK => h2 K' (fun a' w' hS hW => hK a' w' ⟨hS, hW⟩))
def prf (g : GV) (q : CV) (i : Nat) : List DV := (q.red.take i).map fun p => decU g p.toNat q.look
theorem prf_next {g : GV} {q : CV} {i : Nat} (h : i < q.red.length) : prf g q (i + 1) = prf g q i ++ [decU g (q.red.getD i 0).toNat q.look] := by
 unfold prf
 rw [List.take_succ_eq_append_getElem h, List.map_append]
 simp [List.getD, h]
theorem prf_all {g : GV} {q : CV} : prf g q q.red.length = q.red.map fun p => decU g p.toNat q.look := by
 unfold prf
 rw [List.take_length]
theorem prf_nn {g : GV} {q : CV} (hp : ∀ p ∈ q.red, 0 <= p) (i : Nat) : (∀ x ∈ prf g q i, x.kind = 2 -> 0 <= x.prod) /\ ∀ x ∈ prf g q i, x.kind = 3 -> 0 <= x.lev := by
 refine ⟨fun x hx hk => ?_, fun x hx hk => ?_⟩
 ·obtain ⟨p, hm, rfl⟩ := List.mem_map.1 hx
  have := hp p (List.mem_of_mem_take hm)
  rcases (dec_kinds g p.toNat q.look).2 with r | r | r | r
  ·omega
  ·omega
  ·rw [r.2.1]; omega
  ·omega
 ·obtain ⟨p, hm, rfl⟩ := List.mem_map.1 hx
  rcases (dec_kinds g p.toNat q.look).2 with r | r | r | r
  ·omega
  ·omega
  ·omega
  ·exact r.2.2.2
set_option linter.unusedSimpArgs false in
theorem rResolve_yes (g : GV) (q : CV) (w : World) (h : GAt 140737488355328 w g) (ok : OkC g) (hl : q.red.length <= 140737488355328) (hr : InRow w q.ra q.red) (hc : cfE g q = 0) (hs : q.shift ≠ -1) (hn : q.red.getD 0 0 ≠ -1) :
  Calls Tryz.prog 14 #[g.val, q.val] w (RrO w (resU g q.look q.shift q.red, 0)) := by
 have X0 : Hid ((((w.alloc (gBox g)).alloc (.cells #[.int .i64 q.st, .int .i64 q.look, .int .i64 q.shift, .slice q.ra q.red.length q.rc] 44)).alloc dZero).heap[w.heap.size]? = some (gBox g) /\ (((w.alloc (gBox g)).alloc (.cells #[.int .i64 q.st, .int .i64 q.look, .int .i64 q.shift, .slice q.ra q.red.length q.rc] 44)).alloc dZero).heap[w.heap.size + 1]? = some (.cells #[.int .i64 q.st, .int .i64 q.look, .int .i64 q.shift, .slice q.ra q.red.length q.rc] 44 (0, 0)) /\ (((w.alloc (gBox g)).alloc (.cells #[.int .i64 q.st, .int .i64 q.look, .int .i64 q.shift, .slice q.ra q.red.length q.rc] 44)).alloc dZero).heap[w.heap.size + 1 + 1]? = some (.cells #[.int .i64 0, .int .i64 0, .int .i64 0, .slice none 0 0, .bool false, .int .i64 0] 58 (0, 0)) /\ Below w.heap.size w (((w.alloc (gBox g)).alloc (.cells #[.int .i64 q.st, .int .i64 q.look, .int .i64 q.shift, .slice q.ra q.red.length q.rc] 44)).alloc dZero)) := by
  have N := GC.new g q w
  have q1 := heap_alloc_new ((w.alloc (gBox g)).alloc (.cells #[.int .i64 q.st, .int .i64 q.look, .int .i64 q.shift, .slice q.ra q.red.length q.rc] 44)) dZero
  rw [alZ, alZ] at q1
  exact ⟨blk_later N.gb (below_alloc _ _), blk_later N.cb (below_alloc _ _), q1, N.bel.trans ((below_alloc _ _).mono N.bel.size)⟩
 have MC : Hid (∀ w', Below w.heap.size w w' -> Calls Tryz.prog 37 #[g.val, q.val] w' fun e w'' => e = .returned (.int .i64 0) /\ Below w'.heap.size w' w'') := fun w' hb => by
  have := rmay_P g q w' h.tl h.pl hl (hr.later hb)
  rwa [hc] at this
 have HR : Hid (∀ w', Below w.heap.size w w' -> InRow w' q.ra q.red) := fun w' hb => hr.later hb
 obtain ⟨k1, k2, k3, k4, k5, k6, k7⟩ := cf_ok hc ok
 obtain ⟨k8, k9⟩ := k7 hs
 have HK5 : Hid (q.red.length <= 257) := k5
 have hne : q.red ≠ [] := by intro e; rw [e] at k8; simp at k8
 have hp0 : ∀ p ∈ q.red, 0 <= p := fun p hp => by
  obtain ⟨i, hi, rfl⟩ := getD_mem (d := 0) hp
  refine rise_nonneg k3 ?_ i hi
  have := (k2 _ (mem_getD (d := 0) k8)).1
  omega
 have HPP : Hid (∀ p ∈ q.red, 0 <= p) := hp0
 have hm1 : (-1) ∉ q.red := fun e => by have := hp0 _ e; omega
 have EN : Hid ((∀ p ∈ q.red, (decU g p.toNat q.look).kind ≠ 0) -> enR q.look (levU g.ls q.look) q.red (prf g q q.red.length) = resU g q.look q.shift q.red) := fun h0 => by
  rw [prf_all]
  exact en_res hs hm1 hp0 hne h0
 have E0 : Hid (∀ p ∈ q.red, (decU g p.toNat q.look).kind = 0 -> resU g q.look q.shift q.red = noneD q.look) := fun p hp hk => by
  unfold resU
  rw [if_neg (by intro e; rcases e with e | e; exact hs e; exact hm1 e)]
  unfold pickD
  rw [if_pos]
  left
  intro e
  have : decU g p.toNat q.look ∈ kindD 0 (q.red.map fun p => decU g p.toNat q.look) := List.mem_filter.2 ⟨List.mem_map.2 ⟨p, hp, rfl⟩, by simpa using hk⟩
  rw [e] at this
  cases this
 have NN : Hid (∀ i, (∀ x ∈ prf g q i, x.kind = 2 -> 0 <= x.prod) /\ ∀ x ∈ prf g q i, x.kind = 3 -> 0 <= x.lev) := prf_nn hp0
 have DC : Hid (∀ w' p, p ∈ q.red -> Below w.heap.size w w' -> Calls Tryz.prog 38 #[g.val, .int .i64 p, .int .i64 q.look] w' (DcO w' (decU g p.toNat q.look, 0))) := fun w' p hp hb => by
  have := rDecide_P g p q.look w' (h.later hb) ok
  have e : decF g 0 p q.look = (decU g p.toNat q.look, 0) := by
   have := k2 p hp
   have := hp0 p hp
   unfold decF inP inT
   rw [if_neg (by simp), if_neg (by simp; omega), if_neg (by simp; omega)]
  rwa [e] at this
 have LC : Hid (∀ w', Below w.heap.size w w' -> Calls Tryz.prog 39 #[g.val, .int .i64 q.look] w' fun e w'' => e = .returned (.int .i64 (levU g.ls q.look)) /\ Below w'.heap.size w' w'') := fun w' hb => rlevel_P g q.look w' (h.later hb)
 have t1 : ((0 : Int) != 0) = false := by decide
 have d1b : (q.shift == -1) = false := by simpa using hs
 obtain ⟨rb, ro, hra, -, -⟩ := hr hne
 have RW : Hid (∀ w', Below w.heap.size w w' -> ∀ i, i < q.red.length -> w'.cell? ⟨rb, ro + i, none⟩ = some (.int .i64 (q.red.getD i 0))) := fun w' hb i hi => by
  obtain ⟨b', o', e, _, hc'⟩ := HR.out w' hb hne
  rw [hra] at e
  simp only [Option.some.injEq, Addr.mk.injEq] at e
  rw [e.1, e.2.1]
  exact hc' i hi
 have HRA : Hid (q.ra = some ⟨rb, ro, none⟩) := hra
 obtain ⟨y0, y1, y2, y3⟩ := cb_cells (q := q) X0.out.2.1
 obtain ⟨x0, x1, x2, x3, x4⟩ := gb_cells X0.out.1
 have hlp : (0 : Int) < (q.red.length : Int) := by omega
 obtain ⟨p0, hp00⟩ : ∃ p0, q.red.getD 0 0 = p0 := ⟨_, rfl⟩
 have R0 : Hid (∀ w', Below w.heap.size w w' -> w'.cell? ⟨rb, ro, none⟩ = some (.int .i64 p0)) := fun w' hb => by rw [<- hp00]; exact RW.out w' hb 0 k8
 have d2b : (p0 == -1) = false := by rw [hp00] at hn; simpa using hn
 clear h hr hra k1 k2 k3 k4 k5 k6 k7 k9 hp0 hm1 hn hs hc HR ok hne hp00
 go_enter Tryz.func14, Tryz.ntmps14
 go_wp2_with (go_at_call 37; refine (MC.out _ X0.out.2.2.2).mono ?_; rintro e w1 ⟨rfl, b1⟩; have X1 : Hid (RV g q w w1.heap.size (w1.alloc (.cells #[.int .i64 q.look, .int .i64 0, .int .i64 (-1), .slice none 0 0, .bool false, .int .i64 (-1)] 58)) /\ Below w.heap.size w w1) := ⟨⟨blk_later (blk_later X0.out.1 b1) (below_alloc _ _), blk_later (blk_later X0.out.2.1 b1) (below_alloc _ _), blk_later (blk_later X0.out.2.2.1 b1) (below_alloc _ _), heap_alloc_new _ _, (X0.out.2.2.2.trans (b1.mono X0.out.2.2.2.size)).trans ((below_alloc _ _).mono (X0.out.2.2.2.trans (b1.mono X0.out.2.2.2.size)).size)⟩, X0.out.2.2.2.trans (b1.mono X0.out.2.2.2.size)⟩; have X2 : Hid (w1.heap[w.heap.size + 1]? = some (.cells #[.int .i64 q.st, .int .i64 q.look, .int .i64 q.shift, .slice q.ra q.red.length q.rc] 44 (0, 0))) := blk_later X0.out.2.1 b1; clear b1 x0 x1 x2 x3 x4 y0 y1 y2 y3; obtain ⟨u0, u1, u2, u3⟩ := cb_cells (q := q) X2.out; obtain ⟨y0, y1, y2, y3⟩ := cb_cells (q := q) X1.out.1.cb; rw [HRA.out] at y3; have cx := R0.out _ X1.out.1.bel)
 have S0 : Hid (RV g q w w1.heap.size (w1.alloc (.cells #[.int .i64 q.look, .int .i64 0, .int .i64 (-1), .slice none 0 0, .bool false, .int .i64 (-1)] 58))) := X1.out.1
 clear X0 X1 X2 MC R0 u0 u1 u2 u3 y0 y1 y2 y3 cx d2b d1b
 generalize (w1.alloc (.cells #[.int .i64 q.look, .int .i64 0, .int .i64 (-1), .slice none 0 0, .bool false, .int .i64 (-1)] 58)) = W1 at *
 generalize w1.heap.size = nb at *
 go_loopw [8, 9, 10, 11, 12] (fun z8 z9 z10 z11 z12 wr => ∃ i : Nat, i <= q.red.length /\ z12 = .int .i64 i /\ z8 = .int .i64 (stR (prf g q i)) /\ z9 = .bool (mnR (prf g q i)) /\ z10 = .int .i64 (wrR (prf g q i)) /\ z11 = .int .i64 (byR (prf g q i)) /\ (∀ p ∈ q.red.take i, (decU g p.toNat q.look).kind ≠ 0) /\ RV g q w nb wr) (fun _ _ _ _ z _ => q.red.length - (intOf z).toNat)
 case atStart => exact ⟨0, Nat.zero_le _, rfl, rfl, rfl, rfl, rfl, fun p hp => (by simp at hp), S0.out⟩
 case round =>
  clear S0
  obtain ⟨i, hi, rfl, rfl, rfl, rfl, rfl, hno, hV⟩ := hrel
  have HN : Hid (∀ p ∈ q.red.take i, (decU g p.toNat q.look).kind ≠ 0) := hno
  obtain ⟨wd, hwd⟩ : ∃ wd : World, wd = wr.drew := ⟨_, rfl⟩
  have SD : Hid (RV g q w nb wd) := by rw [hwd]; exact hV.drew
  have HV : Hid (RV g q w nb wr) := hV
  clear hno hV
  obtain ⟨y0, y1, y2, y3⟩ := cb_cells (q := q) HV.out.cb
  by_cases hlt : i < q.red.length
  ·have ilt : (i : Int) < (q.red.length : Int) := by omega
   obtain ⟨v0, v1, v2, v3⟩ := cb_cells (q := q) SD.out.cb
   obtain ⟨x0, x1, x2, x3, x4⟩ := gb_cells SD.out.gb
   have cx := RW.out wd SD.out.bel i hlt
   have NX := prf_next (g := g) hlt
   have HM : Hid (q.red.getD i 0 ∈ q.red) := mem_getD hlt
   have HT : Hid (∀ p, q.red.getD i 0 = p -> (decU g p.toNat q.look).kind ≠ 0 -> ∀ x ∈ q.red.take (i + 1), (decU g x.toNat q.look).kind ≠ 0) := fun p e hk x hx => by
    rw [List.take_succ_eq_append_getElem hlt] at hx
    rcases List.mem_append.1 hx with r | r
    ·exact HN.out x r
    ·rw [List.mem_singleton.1 r]
     have : q.red[i] = p := by rw [<- e]; simp [List.getD, hlt]
     rw [this]
     exact hk
   generalize hp : q.red.getD i 0 = p at cx NX HM
   have HP : Hid (q.red.getD i 0 = p) := hp
   clear hp
   have CC := DC.out wd p HM.out SD.out.bel
   have KH : Hid _ := dec_kinds g p.toNat q.look
   have HK0 : Hid ((decU g p.toNat q.look).kind = 0 -> resU g q.look q.shift q.red = noneD q.look) := E0.out p HM.out
   have HK1 : Hid ((decU g p.toNat q.look).kind ≠ 0 -> ∀ x ∈ q.red.take (i + 1), (decU g x.toNat q.look).kind ≠ 0) := HT.out p HP.out
   have DD : Hid (∀ w', Below w.heap.size w w' -> Calls Tryz.prog 38 #[g.val, .int .i64 p, .int .i64 q.look] w' (DcO w' (decU g p.toNat q.look, 0))) := fun w' hb => DC.out w' p HM.out hb
   generalize decU g p.toNat q.look = d at *
   have HNX : Hid (prf g q (i + 1) = prf g q i ++ [d]) := NX
   have CC2 : Hid (Calls Tryz.prog 38 #[g.val, .int .i64 p, .int .i64 q.look] wd (DcO wd (d, 0))) := CC
   clear NX CC HT
   rw [HRA.out] at v3
   subst hwd
   clear v0 v1 v2 v3 x0 x1 x2 x3 x4 cx
   go_upto_region 14 with fail
   go_cut [13, 14] from 38 to 81 (fun z13 z14 wx => ∃ b da dc, z13 = .pointer (some ⟨b, 0, none⟩) /\ z14 = .int .i64 0 /\ wx.heap[b]? = some (.cells #[.int .i64 d.look, .int .i64 d.kind, .int .i64 d.prod, .slice da d.drop.length dc, .bool d.sd, .int .i64 d.lev] 58 (0, 0)) /\ RV g q w nb wx)
   case first =>
    have HS : Hid (∀ w', RV g q w nb w' -> (fun w' : World => w'.cell? ⟨w.heap.size, 0, none⟩ = some (.slice g.ta g.ts.length g.tc) /\ w'.cell? ⟨w.heap.size, 1, none⟩ = some (.slice g.na g.ns.length g.nc) /\ w'.cell? ⟨w.heap.size, 2, none⟩ = some (.int .i64 g.start) /\ w'.cell? ⟨w.heap.size, 3, none⟩ = some (.slice g.pa g.ps.length g.pc) /\ w'.cell? ⟨w.heap.size, 4, none⟩ = some (.slice g.la g.ls.length g.lc) /\ w'.cell? ⟨w.heap.size + 1, 1, none⟩ = some (.int .i64 q.look) /\ w'.cell? ⟨w.heap.size + 1, 3, none⟩ = some (.slice (some ⟨rb, ro, none⟩) q.red.length q.rc) /\ w'.cell? ⟨rb, ro + i, none⟩ = some (.int .i64 p)) w') := fun w' h2 => by
     obtain ⟨a0, a1, a2, a3, a4⟩ := gb_cells h2.gb
     obtain ⟨b0, b1, b2, b3⟩ := cb_cells (q := q) h2.cb
     rw [HRA.out] at b3
     have c := RW.out _ h2.bel i hlt
     rw [HP.out] at c
     exact ⟨a0, a1, a2, a3, a4, b1, b3, c⟩
    have hs : Hid ((fun w' : World => w'.cell? ⟨w.heap.size, 0, none⟩ = some (.slice g.ta g.ts.length g.tc) /\ w'.cell? ⟨w.heap.size, 1, none⟩ = some (.slice g.na g.ns.length g.nc) /\ w'.cell? ⟨w.heap.size, 2, none⟩ = some (.int .i64 g.start) /\ w'.cell? ⟨w.heap.size, 3, none⟩ = some (.slice g.pa g.ps.length g.pc) /\ w'.cell? ⟨w.heap.size, 4, none⟩ = some (.slice g.la g.ls.length g.lc) /\ w'.cell? ⟨w.heap.size + 1, 1, none⟩ = some (.int .i64 q.look) /\ w'.cell? ⟨w.heap.size + 1, 3, none⟩ = some (.slice (some ⟨rb, ro, none⟩) q.red.length q.rc) /\ w'.cell? ⟨rb, ro + i, none⟩ = some (.int .i64 p)) wr.drew) := HS.out _ SD.out
    refine wp_region_x (S := fun _ => (fun w' : World => w'.cell? ⟨w.heap.size, 0, none⟩ = some (.slice g.ta g.ts.length g.tc) /\ w'.cell? ⟨w.heap.size, 1, none⟩ = some (.slice g.na g.ns.length g.nc) /\ w'.cell? ⟨w.heap.size, 2, none⟩ = some (.int .i64 g.start) /\ w'.cell? ⟨w.heap.size, 3, none⟩ = some (.slice g.pa g.ps.length g.pc) /\ w'.cell? ⟨w.heap.size, 4, none⟩ = some (.slice g.la g.ls.length g.lc) /\ w'.cell? ⟨w.heap.size + 1, 1, none⟩ = some (.int .i64 q.look) /\ w'.cell? ⟨w.heap.size + 1, 3, none⟩ = some (.slice (some ⟨rb, ro, none⟩) q.red.length q.rc) /\ w'.cell? ⟨rb, ro + i, none⟩ = some (.int .i64 p))) (by kernel_rfl) ?_
    refine takeF (i := 0) (v := ?_) rfl (by kernel_rfl) (by decide +kernel) (by decide +kernel) (fun _ _ _ h => h) (Or.inl ⟨by rfl, ?_⟩) hs.out ?_
    rotate_left
    ·(intro w hSw; (try dsimp only at hSw); go_simp; try (with_reducible rfl))
    (try simp only [Act.put, lsA, lsZ, lsN])
    refine takeF (i := 1) (v := ?_) rfl (by kernel_rfl) (by decide +kernel) (by decide +kernel) (fun _ _ _ h => h) (Or.inl ⟨by rfl, ?_⟩) hs.out ?_
    rotate_left
    ·(intro w hSw; (try dsimp only at hSw); go_simp; try (with_reducible rfl))
    (try simp only [Act.put, lsA, lsZ, lsN])
    refine takeF (i := 2) (v := ?_) rfl (by kernel_rfl) (by decide +kernel) (by decide +kernel) (fun _ _ _ h => h) (Or.inl ⟨by rfl, ?_⟩) hs.out ?_
    rotate_left
    ·(intro w hSw; (try dsimp only at hSw); go_simp; try (with_reducible rfl))
    (try simp only [Act.put, lsA, lsZ, lsN])
    refine takeF (i := 3) (v := ?_) rfl (by kernel_rfl) (by decide +kernel) (by decide +kernel) (fun _ _ _ h => h) (Or.inl ⟨by rfl, ?_⟩) hs.out ?_
    rotate_left
    ·(intro w hSw; (try dsimp only at hSw); go_simp; try (with_reducible rfl))
    (try simp only [Act.put, lsA, lsZ, lsN])
    refine takeF (i := 4) (v := ?_) rfl (by kernel_rfl) (by decide +kernel) (by decide +kernel) (fun _ _ _ h => h) (Or.inl ⟨by rfl, ?_⟩) hs.out ?_
    rotate_left
    ·(intro w hSw; (try dsimp only at hSw); go_simp; try (with_reducible rfl))
    (try simp only [Act.put, lsA, lsZ, lsN])
    refine takeF (i := 5) (v := ?_) rfl (by kernel_rfl) (by decide +kernel) (by decide +kernel) (fun _ _ _ h => h) (Or.inl ⟨by rfl, ?_⟩) hs.out ?_
    rotate_left
    ·(intro w hSw; (try dsimp only at hSw); go_simp; try (with_reducible rfl))
    (try simp only [Act.put, lsA, lsZ, lsN])
    refine takeF (i := 6) (v := ?_) rfl (by kernel_rfl) (by decide +kernel) (by decide +kernel) (fun _ _ _ h => h) (Or.inl ⟨by rfl, ?_⟩) hs.out ?_
    rotate_left
    ·(intro w hSw; (try dsimp only at hSw); go_simp; try (with_reducible rfl))
    (try simp only [Act.put, lsA, lsZ, lsN])
    refine takeF (i := 7) (v := ?_) rfl (by kernel_rfl) (by decide +kernel) (by decide +kernel) (fun _ _ _ h => h) (Or.inl ⟨by rfl, ?_⟩) hs.out ?_
    rotate_left
    ·(intro w hSw; (try dsimp only at hSw); go_simp; try (with_reducible rfl))
    (try simp only [Act.put, lsA, lsZ, lsN])
    refine pickA (i := 8) (j := 12) (by decide +kernel) rfl rfl (fun K' hK => ?_) (fun K' hK => ?_)
    ·refine step_callX (by rfl) 38 #[g.val, .int .i64 p, .int .i64 q.look] _ (by apply run_call3 (enters_of Tryz.func38 (by kernel_rfl) rfl) <;> rfl) CC2.out ?_
     rintro e w3 ⟨da, dc, rfl, -, b3⟩
     have N3 : Hid (RV g q w nb w3) := SD.out.later b3
     have hs3 : Hid ((fun w' : World => w'.cell? ⟨w.heap.size, 0, none⟩ = some (.slice g.ta g.ts.length g.tc) /\ w'.cell? ⟨w.heap.size, 1, none⟩ = some (.slice g.na g.ns.length g.nc) /\ w'.cell? ⟨w.heap.size, 2, none⟩ = some (.int .i64 g.start) /\ w'.cell? ⟨w.heap.size, 3, none⟩ = some (.slice g.pa g.ps.length g.pc) /\ w'.cell? ⟨w.heap.size, 4, none⟩ = some (.slice g.la g.ls.length g.lc) /\ w'.cell? ⟨w.heap.size + 1, 1, none⟩ = some (.int .i64 q.look) /\ w'.cell? ⟨w.heap.size + 1, 3, none⟩ = some (.slice (some ⟨rb, ro, none⟩) q.red.length q.rc) /\ w'.cell? ⟨rb, ro + i, none⟩ = some (.int .i64 p)) w3) := HS.out _ N3.out
     refine ⟨_, rfl, hK.out _ _ hs3.out ?_⟩
     clear hK K' b3
     (try simp only [Act.put, lsA, lsZ, lsN])
     refine takeF (i := 9) (v := ?_) rfl (by kernel_rfl) (by decide +kernel) (by decide +kernel) (fun _ _ _ h => h) (Or.inl ⟨by rfl, ?_⟩) hs3.out ?_
     rotate_left
     ·(intro w hSw; (try dsimp only at hSw); go_simp; try (with_reducible rfl))
     (try simp only [Act.put, lsA, lsZ, lsN])
     refine takeF (i := 10) (v := ?_) rfl (by kernel_rfl) (by decide +kernel) (by decide +kernel) (fun _ _ _ h => h) (Or.inl ⟨by rfl, ?_⟩) hs3.out ?_
     rotate_left
     ·(intro w hSw; (try dsimp only at hSw); go_simp; try (with_reducible rfl))
     (try simp only [Act.put, lsA, lsZ, lsN])
     refine takeF (i := 11) (v := ?_) rfl (by kernel_rfl) (by decide +kernel) (by decide +kernel) (fun _ _ _ h => h) (Or.inl ⟨by rfl, ?_⟩) hs3.out ?_
     rotate_left
     ·(intro w hSw; (try dsimp only at hSw); go_simp; try (with_reducible rfl))
     (try simp only [Act.put, lsA, lsZ, lsN])
     refine wpAnyX_one (j := 12) (by decide +kernel) rfl (fun K' hK => ?_)
     go_simp
     have N4 : Hid (RV g q w nb (w3.alloc dZero) /\ (w3.alloc dZero).heap[w3.heap.size]? = some (.cells #[.int .i64 0, .int .i64 0, .int .i64 0, .slice none 0 0, .bool false, .int .i64 0] 58 (0, 0)) /\ w.heap.size <= w3.heap.size) := ⟨N3.out.later (below_alloc _ _), heap_alloc_new w3 dZero, N3.out.bel.size⟩
     refine hK.out _ _ (HS.out _ N4.out.1) ?_
     clear hK K'
     (try simp only [Act.put, lsA, lsZ, lsN])
     obtain ⟨⟨z0, z1, z2, z3, z4, z5⟩, ⟨f0, f1, f2, f3, f4, f5⟩, hzz⟩ := dz_cells N4.out.2.1
     refine wpAnyX_one (j := 13) (by decide +kernel) rfl (fun K' hK => ?_)
     go_simp
     have RVE : Hid (RV g q w nb (w3.alloc (.cells #[.int .i64 d.look, .int .i64 d.kind, .int .i64 d.prod, .slice da d.drop.length dc, .bool d.sd, .int .i64 d.lev] 58))) := N3.out.later (below_alloc _ _)
     have HBX : Hid ((w3.alloc (.cells #[.int .i64 d.look, .int .i64 d.kind, .int .i64 d.prod, .slice da d.drop.length dc, .bool d.sd, .int .i64 d.lev] 58)).heap[w3.heap.size]? = some (.cells #[.int .i64 d.look, .int .i64 d.kind, .int .i64 d.prod, .slice da d.drop.length dc, .bool d.sd, .int .i64 d.lev] 58 (0, 0))) := heap_alloc_new w3 _
     refine hK.out _ _ (HS.out _ RVE.out) ?_
     clear hK K' z0 z1 z2 z3 z4 z5 f0 f1 f2 f3 f4 f5 hzz
     (try simp only [Act.put, lsA, lsZ, lsN])
     refine wpAnyX_one (j := 14) (by decide +kernel) rfl (fun K' hK => ?_)
     go_simp
     refine hK.out _ _ (HS.out _ RVE.out) ?_
     clear hK K'
     (try simp only [Act.put, lsA, lsZ, lsN])
     refine wpAnyX_done (by decide +kernel) ?_
     generalize (w3.alloc (.cells #[.int .i64 d.look, .int .i64 d.kind, .int .i64 d.prod, .slice da d.drop.length dc, .bool d.sd, .int .i64 d.lev] 58)) = W4 at *
     go_wp2_with fail
     go_meet
     case rel => exact ⟨_, da, dc, rfl, rfl, HBX.out, RVE.out⟩
    ·go_simp
     have N4 : Hid (RV g q w nb (wr.drew.alloc dZero) /\ (wr.drew.alloc dZero).heap[wr.heap.size]? = some (.cells #[.int .i64 0, .int .i64 0, .int .i64 0, .slice none 0 0, .bool false, .int .i64 0] 58 (0, 0)) /\ w.heap.size <= wr.heap.size) := ⟨SD.out.later (below_alloc _ _), heap_alloc_new wr.drew dZero, SD.out.bel.size⟩
     have hs4 : Hid ((fun w' : World => w'.cell? ⟨w.heap.size, 0, none⟩ = some (.slice g.ta g.ts.length g.tc) /\ w'.cell? ⟨w.heap.size, 1, none⟩ = some (.slice g.na g.ns.length g.nc) /\ w'.cell? ⟨w.heap.size, 2, none⟩ = some (.int .i64 g.start) /\ w'.cell? ⟨w.heap.size, 3, none⟩ = some (.slice g.pa g.ps.length g.pc) /\ w'.cell? ⟨w.heap.size, 4, none⟩ = some (.slice g.la g.ls.length g.lc) /\ w'.cell? ⟨w.heap.size + 1, 1, none⟩ = some (.int .i64 q.look) /\ w'.cell? ⟨w.heap.size + 1, 3, none⟩ = some (.slice (some ⟨rb, ro, none⟩) q.red.length q.rc) /\ w'.cell? ⟨rb, ro + i, none⟩ = some (.int .i64 p)) (wr.drew.alloc dZero)) := HS.out _ N4.out.1
     refine hK.out _ _ hs4.out ?_
     clear hK K'
     (try simp only [Act.put, lsA, lsZ, lsN])
     refine wpAnyX_one (j := 8) (by decide +kernel) rfl (fun K' hK => ?_)
     refine step_callX (by rfl) 38 #[g.val, .int .i64 p, .int .i64 q.look] _ (by apply run_call3 (enters_of Tryz.func38 (by kernel_rfl) rfl) <;> rfl) (DD.out _ N4.out.1.bel) ?_
     rintro e w3 ⟨da, dc, rfl, -, b3⟩
     have N5 : Hid (RV g q w nb w3 /\ w3.heap[wr.heap.size]? = some (.cells #[.int .i64 0, .int .i64 0, .int .i64 0, .slice none 0 0, .bool false, .int .i64 0] 58 (0, 0)) /\ w.heap.size <= wr.heap.size) := ⟨N4.out.1.later b3, blk_later N4.out.2.1 b3, N4.out.2.2⟩
     have hs5 : Hid ((fun w' : World => w'.cell? ⟨w.heap.size, 0, none⟩ = some (.slice g.ta g.ts.length g.tc) /\ w'.cell? ⟨w.heap.size, 1, none⟩ = some (.slice g.na g.ns.length g.nc) /\ w'.cell? ⟨w.heap.size, 2, none⟩ = some (.int .i64 g.start) /\ w'.cell? ⟨w.heap.size, 3, none⟩ = some (.slice g.pa g.ps.length g.pc) /\ w'.cell? ⟨w.heap.size, 4, none⟩ = some (.slice g.la g.ls.length g.lc) /\ w'.cell? ⟨w.heap.size + 1, 1, none⟩ = some (.int .i64 q.look) /\ w'.cell? ⟨w.heap.size + 1, 3, none⟩ = some (.slice (some ⟨rb, ro, none⟩) q.red.length q.rc) /\ w'.cell? ⟨rb, ro + i, none⟩ = some (.int .i64 p)) w3) := HS.out _ N5.out.1
     refine ⟨_, rfl, hK.out _ _ hs5.out ?_⟩
     clear hK K' b3
     (try simp only [Act.put, lsA, lsZ, lsN])
     refine takeF (i := 9) (v := ?_) rfl (by kernel_rfl) (by decide +kernel) (by decide +kernel) (fun _ _ _ h => h) (Or.inl ⟨by rfl, ?_⟩) hs5.out ?_
     rotate_left
     ·(intro w hSw; (try dsimp only at hSw); go_simp; try (with_reducible rfl))
     (try simp only [Act.put, lsA, lsZ, lsN])
     refine takeF (i := 10) (v := ?_) rfl (by kernel_rfl) (by decide +kernel) (by decide +kernel) (fun _ _ _ h => h) (Or.inl ⟨by rfl, ?_⟩) hs5.out ?_
     rotate_left
     ·(intro w hSw; (try dsimp only at hSw); go_simp; try (with_reducible rfl))
     (try simp only [Act.put, lsA, lsZ, lsN])
     refine takeF (i := 11) (v := ?_) rfl (by kernel_rfl) (by decide +kernel) (by decide +kernel) (fun _ _ _ h => h) (Or.inl ⟨by rfl, ?_⟩) hs5.out ?_
     rotate_left
     ·(intro w hSw; (try dsimp only at hSw); go_simp; try (with_reducible rfl))
     (try simp only [Act.put, lsA, lsZ, lsN])
     obtain ⟨⟨z0, z1, z2, z3, z4, z5⟩, ⟨f0, f1, f2, f3, f4, f5⟩, hzz⟩ := dz_cells N5.out.2.1
     refine wpAnyX_one (j := 13) (by decide +kernel) rfl (fun K' hK => ?_)
     go_simp
     obtain ⟨rve, hbx⟩ := RV.six SD.out (Nat.le_refl _) N5.out.1 N5.out.2.1 (.int .i64 d.look) (.int .i64 d.kind) (.int .i64 d.prod) (.slice da d.drop.length dc) (.bool d.sd) (.int .i64 d.lev)
     have RVE : Hid (RV g q w nb ((((((w3.setCell ⟨wr.heap.size, 0, none⟩ (.int .i64 d.look)).setCell ⟨wr.heap.size, 1, none⟩ (.int .i64 d.kind)).setCell ⟨wr.heap.size, 2, none⟩ (.int .i64 d.prod)).setCell ⟨wr.heap.size, 3, none⟩ (.slice da d.drop.length dc)).setCell ⟨wr.heap.size, 4, none⟩ (.bool d.sd)).setCell ⟨wr.heap.size, 5, none⟩ (.int .i64 d.lev))) := rve
     have HBX : Hid (((((((w3.setCell ⟨wr.heap.size, 0, none⟩ (.int .i64 d.look)).setCell ⟨wr.heap.size, 1, none⟩ (.int .i64 d.kind)).setCell ⟨wr.heap.size, 2, none⟩ (.int .i64 d.prod)).setCell ⟨wr.heap.size, 3, none⟩ (.slice da d.drop.length dc)).setCell ⟨wr.heap.size, 4, none⟩ (.bool d.sd)).setCell ⟨wr.heap.size, 5, none⟩ (.int .i64 d.lev)).heap[wr.heap.size]? = some (.cells #[.int .i64 d.look, .int .i64 d.kind, .int .i64 d.prod, .slice da d.drop.length dc, .bool d.sd, .int .i64 d.lev] 58 (0, 0))) := hbx
     clear rve hbx
     refine hK.out _ _ (HS.out _ RVE.out) ?_
     clear hK K' z0 z1 z2 z3 z4 z5 f0 f1 f2 f3 f4 f5 hzz
     (try simp only [Act.put, lsA, lsZ, lsN])
     refine wpAnyX_one (j := 14) (by decide +kernel) rfl (fun K' hK => ?_)
     go_simp
     refine hK.out _ _ (HS.out _ RVE.out) ?_
     clear hK K'
     (try simp only [Act.put, lsA, lsZ, lsN])
     refine wpAnyX_done (by decide +kernel) ?_
     generalize ((((((w3.setCell ⟨wr.heap.size, 0, none⟩ (.int .i64 d.look)).setCell ⟨wr.heap.size, 1, none⟩ (.int .i64 d.kind)).setCell ⟨wr.heap.size, 2, none⟩ (.int .i64 d.prod)).setCell ⟨wr.heap.size, 3, none⟩ (.slice da d.drop.length dc)).setCell ⟨wr.heap.size, 4, none⟩ (.bool d.sd)).setCell ⟨wr.heap.size, 5, none⟩ (.int .i64 d.lev)) = W4 at *
     go_wp2_with fail
     go_meet
     case rel => exact ⟨_, da, dc, rfl, rfl, HBX.out, RVE.out⟩
   case rest =>
    obtain ⟨b, da, dc, rfl, rfl, hbx, hV2⟩ := hcut
    have N3 : Hid (RV g q w nb wc) := hV2
    have e1 : wc.cell? ⟨b, 1, none⟩ = some (.int .i64 d.kind) := (cellq_any hbx).trans rfl
    have e2 : wc.cell? ⟨b, 2, none⟩ = some (.int .i64 d.prod) := (cellq_any hbx).trans rfl
    have e5 : wc.cell? ⟨b, 5, none⟩ = some (.int .i64 d.lev) := (cellq_any hbx).trans rfl
    obtain ⟨y0, y1, y2, y3⟩ := cb_cells (q := q) N3.out.cb
    rw [HRA.out] at y3
    have cx := RW.out wc N3.out.bel i hlt
    rw [HP.out] at cx
    clear hbx hV2 HV SD CC2 DD
    obtain ⟨hlk, KK⟩ := KH.out
    clear KH
    obtain ⟨lk, kd, pd, dr, sd, lv⟩ := d
    simp only at KK hlk e1 e2 e5
    subst hlk
    obtain ⟨s0, hs0⟩ : ∃ s, stR (prf g q i) = s := ⟨_, rfl⟩
    obtain ⟨b0, hb0⟩ : ∃ s, byR (prf g q i) = s := ⟨_, rfl⟩
    obtain ⟨e0, he0⟩ : ∃ s, wrR (prf g q i) = s := ⟨_, rfl⟩
    obtain ⟨mn, hmn⟩ : ∃ s, mnR (prf g q i) = s := ⟨_, rfl⟩
    rw [hs0, hb0, he0, hmn]
    have HST : Hid (stR (prf g q i) = s0 /\ mnR (prf g q i) = mn /\ wrR (prf g q i) = e0 /\ byR (prf g q i) = b0) := ⟨hs0, hmn, he0, hb0⟩
    have HP0 : Hid (0 <= p) := HPP.out p HM.out
    clear hs0 hb0 he0 hmn
    rcases KK with rfl | ⟨rfl, rfl, rfl, rfl⟩ | ⟨rfl, rfl, rfl⟩ | ⟨rfl, rfl, rfl, hlv⟩
    ·skip
     obtain ⟨n0, n1, n2, n3, n4, n5⟩ := nine_cells N3.out.nb
     obtain ⟨⟨z0, z1, z2, z3, z4, z5⟩, ⟨f0, f1, f2, f3, f4, f5⟩, hzz⟩ := dz_cells N3.out.rb
     go_wp2
     obtain ⟨q1, q2, q3⟩ := six_set N3.out.rb (.int .i64 q.look) (.int .i64 0) (.int .i64 (-1)) (.slice none 0 0) (.bool false) (.int .i64 (-1))
     have q4 := q3 _ _ N3.out.bel (by omega)
     generalize ((((((wc.setCell ⟨w.heap.size + 1 + 1, 0, none⟩ (.int .i64 q.look)).setCell ⟨w.heap.size + 1 + 1, 1, none⟩ (.int .i64 0)).setCell ⟨w.heap.size + 1 + 1, 2, none⟩ (.int .i64 (-1))).setCell ⟨w.heap.size + 1 + 1, 3, none⟩ (.slice none 0 0)).setCell ⟨w.heap.size + 1 + 1, 4, none⟩ (.bool false)).setCell ⟨w.heap.size + 1 + 1, 5, none⟩ (.int .i64 (-1))) = W4 at *
     have r0 : W4.cell? ⟨w.heap.size + 1 + 1, 0, none⟩ = some (.int .i64 q.look) := (cellq_any q1).trans rfl
     have r1 : W4.cell? ⟨w.heap.size + 1 + 1, 1, none⟩ = some (.int .i64 0) := (cellq_any q1).trans rfl
     have r2 : W4.cell? ⟨w.heap.size + 1 + 1, 2, none⟩ = some (.int .i64 (-1)) := (cellq_any q1).trans rfl
     have r3 : W4.cell? ⟨w.heap.size + 1 + 1, 3, none⟩ = some (.slice none 0 0) := (cellq_any q1).trans rfl
     have r4 : W4.cell? ⟨w.heap.size + 1 + 1, 4, none⟩ = some (.bool false) := (cellq_any q1).trans rfl
     have r5 : W4.cell? ⟨w.heap.size + 1 + 1, 5, none⟩ = some (.int .i64 (-1)) := (cellq_any q1).trans rfl
     refine bodyPost_ret (v := .tuple #[.agg #[.int .i64 q.look, .int .i64 0, .int .i64 (-1), .slice none 0 0, .bool false, .int .i64 (-1)], .int .i64 0]) (by simp [results, Tryz.results14, go_sem, r0, r1, r2, r3, r4, r5]) rfl ?_
     exact ⟨none, 0, by rw [HK0.out (by trivial)]; rfl, by rw [HK0.out (by trivial)]; exact rwo_nil _ _ _, q4⟩
    ·skip
     go_wp2
     go_roundw
     case rel => exact ⟨i + 1, by omega, by go_num, (by rw [HNX.out, (stR_shi rfl).1, HST.out.1]), (by rw [HNX.out, (stR_shi rfl).2.2.1, HST.out.2.1]), (by rw [HNX.out, (stR_shi rfl).2.2.2, HST.out.2.2.1]), (by rw [HNX.out, (stR_shi rfl).2.1, HST.out.2.2.2]), HK1.out (by first | trivial | simp), N3.out⟩
     case measure => simp [intOf]; omega
    ·cases mn with
     | true =>
      go_wp2
      go_roundw
      case rel => exact ⟨i + 1, by omega, by go_num, (by rw [HNX.out, (stR_red rfl).1]; have := HP0.out; exact congrArg (Value.int .i64) (by simp only []; omega)), (by rw [HNX.out, mnR_red rfl (NN.out i).1, HST.out.1, HST.out.2.1]; rfl), (by rw [HNX.out, (stR_red rfl).2.2, HST.out.2.2.1]), (by rw [HNX.out, (stR_red rfl).2.1]), HK1.out (by first | trivial | simp), N3.out⟩
      case measure => simp [intOf]; omega
     | false =>
      by_cases hst : 0 <= s0
      ·have hstd : decide (0 <= s0) = true := by simpa using hst
       go_wp2
       go_roundw
       case rel => exact ⟨i + 1, by omega, by go_num, (by rw [HNX.out, (stR_red rfl).1]; have := HP0.out; exact congrArg (Value.int .i64) (by simp only []; omega)), (by rw [HNX.out, mnR_red rfl (NN.out i).1, HST.out.1, HST.out.2.1]; simp [hst]), (by rw [HNX.out, (stR_red rfl).2.2, HST.out.2.2.1]), (by rw [HNX.out, (stR_red rfl).2.1]), HK1.out (by first | trivial | simp), N3.out⟩
       case measure => simp [intOf]; omega
      ·have hstd : decide (0 <= s0) = false := by simpa using hst
       go_wp2
       go_roundw
       case rel => exact ⟨i + 1, by omega, by go_num, (by rw [HNX.out, (stR_red rfl).1]; have := HP0.out; exact congrArg (Value.int .i64) (by simp only []; omega)), (by rw [HNX.out, mnR_red rfl (NN.out i).1, HST.out.1, HST.out.2.1]; simp [hst]), (by rw [HNX.out, (stR_red rfl).2.2, HST.out.2.2.1]), (by rw [HNX.out, (stR_red rfl).2.1]), HK1.out (by first | trivial | simp), N3.out⟩
       case measure => simp [intOf]; omega
    ·by_cases hwr : e0 < 0
     ·skip
      go_wp2
      go_roundw
      case rel => exact ⟨i + 1, by omega, by go_num, (by rw [HNX.out, (stR_err rfl (NN.out i).2).1, HST.out.1]), (by rw [HNX.out, (stR_err rfl (NN.out i).2).2.2.1, HST.out.2.1]), (by rw [HNX.out, (stR_err rfl (NN.out i).2).2.2.2, HST.out.2.2.1]; rw [if_pos hwr]), (by rw [HNX.out, (stR_err rfl (NN.out i).2).2.1, HST.out.2.2.2]), HK1.out (by first | trivial | simp), N3.out⟩
      case measure => simp [intOf]; omega
     ·skip
      go_wp2
      go_roundw
      case rel => exact ⟨i + 1, by omega, by go_num, (by rw [HNX.out, (stR_err rfl (NN.out i).2).1, HST.out.1]), (by rw [HNX.out, (stR_err rfl (NN.out i).2).2.2.1, HST.out.2.1]), (by rw [HNX.out, (stR_err rfl (NN.out i).2).2.2.2, HST.out.2.2.1]; rw [if_neg hwr]), (by rw [HNX.out, (stR_err rfl (NN.out i).2).2.1, HST.out.2.2.2]), HK1.out (by first | trivial | simp), N3.out⟩
      case measure => simp [intOf]; omega
  ·obtain rfl : i = q.red.length := by omega
   have ilt : ¬ (q.red.length : Int) < (q.red.length : Int) := by omega
   obtain ⟨s0, hs0⟩ : ∃ s, stR (prf g q q.red.length) = s := ⟨_, rfl⟩
   obtain ⟨b0, hb0⟩ : ∃ s, byR (prf g q q.red.length) = s := ⟨_, rfl⟩
   obtain ⟨e0, he0⟩ : ∃ s, wrR (prf g q q.red.length) = s := ⟨_, rfl⟩
   obtain ⟨mn, hmn⟩ : ∃ s, mnR (prf g q q.red.length) = s := ⟨_, rfl⟩
   obtain ⟨lev, hlev⟩ : ∃ s, levU g.ls q.look = s := ⟨_, rfl⟩
   have HEN : Hid (resU g q.look q.shift q.red = if mn = true then noneD q.look else if 0 <= s0 then ⟨q.look, 2, s0, q.red.filter fun p => decide (p ≠ s0), true, b0⟩ else if 0 <= e0 then ⟨q.look, 3, -1, q.red.filter fun p => decide (p ≠ s0), true, e0⟩ else ⟨q.look, 1, -1, q.red.filter fun p => decide (p ≠ s0), false, lev⟩) := by
    have h0 := HN.out
    rw [List.take_length] at h0
    have := (EN.out h0).symm
    unfold enR at this
    rw [hs0, hb0, he0, hmn, hlev] at this
    exact this
   have LV : Hid (∀ w', Below w.heap.size w w' -> Calls Tryz.prog 39 #[g.val, .int .i64 q.look] w' fun e w'' => e = .returned (.int .i64 lev) /\ Below w'.heap.size w' w'') := fun w' hb => by
    have := LC.out w' hb
    rw [hlev] at this
    exact this
   rw [hs0, hb0, he0, hmn]
   clear hs0 hb0 he0 hmn hlev SD HN hwd EN LC
   cases mn with
   | true =>
    have HEN2 : Hid (resU g q.look q.shift q.red = noneD q.look) := by show _ = _; rw [HEN.out, if_pos rfl]
    clear HEN
    obtain ⟨n0, n1, n2, n3, n4, n5⟩ := nine_cells HV.out.nb
    obtain ⟨⟨z0, z1, z2, z3, z4, z5⟩, ⟨f0, f1, f2, f3, f4, f5⟩, hzz⟩ := dz_cells HV.out.rb
    go_wp2
    obtain ⟨q1, q2, q3⟩ := six_set HV.out.rb (.int .i64 q.look) (.int .i64 0) (.int .i64 (-1)) (.slice none 0 0) (.bool false) (.int .i64 (-1))
    have q4 := q3 _ _ HV.out.bel (by omega)
    generalize ((((((wr.setCell ⟨w.heap.size + 1 + 1, 0, none⟩ (.int .i64 q.look)).setCell ⟨w.heap.size + 1 + 1, 1, none⟩ (.int .i64 0)).setCell ⟨w.heap.size + 1 + 1, 2, none⟩ (.int .i64 (-1))).setCell ⟨w.heap.size + 1 + 1, 3, none⟩ (.slice none 0 0)).setCell ⟨w.heap.size + 1 + 1, 4, none⟩ (.bool false)).setCell ⟨w.heap.size + 1 + 1, 5, none⟩ (.int .i64 (-1))) = W4 at *
    have r0 : W4.cell? ⟨w.heap.size + 1 + 1, 0, none⟩ = some (.int .i64 q.look) := (cellq_any q1).trans rfl
    have r1 : W4.cell? ⟨w.heap.size + 1 + 1, 1, none⟩ = some (.int .i64 0) := (cellq_any q1).trans rfl
    have r2 : W4.cell? ⟨w.heap.size + 1 + 1, 2, none⟩ = some (.int .i64 (-1)) := (cellq_any q1).trans rfl
    have r3 : W4.cell? ⟨w.heap.size + 1 + 1, 3, none⟩ = some (.slice none 0 0) := (cellq_any q1).trans rfl
    have r4 : W4.cell? ⟨w.heap.size + 1 + 1, 4, none⟩ = some (.bool false) := (cellq_any q1).trans rfl
    have r5 : W4.cell? ⟨w.heap.size + 1 + 1, 5, none⟩ = some (.int .i64 (-1)) := (cellq_any q1).trans rfl
    refine bodyPost_ret (v := .tuple #[.agg #[.int .i64 q.look, .int .i64 0, .int .i64 (-1), .slice none 0 0, .bool false, .int .i64 (-1)], .int .i64 0]) (by simp [results, Tryz.results14, go_sem, r0, r1, r2, r3, r4, r5]) rfl ?_
    exact ⟨none, 0, by rw [HEN2.out]; rfl, by rw [HEN2.out]; exact rwo_nil _ _ _, q4⟩
   | false =>
    have HEN2 : Hid (resU g q.look q.shift q.red = if 0 <= s0 then ⟨q.look, 2, s0, q.red.filter fun p => decide (p ≠ s0), true, b0⟩ else if 0 <= e0 then ⟨q.look, 3, -1, q.red.filter fun p => decide (p ≠ s0), true, e0⟩ else ⟨q.look, 1, -1, q.red.filter fun p => decide (p ≠ s0), false, lev⟩) := by show _ = _; rw [HEN.out, if_neg (by simp)]
    clear HEN
    go_upto_region 27 with fail
    go_cut [15] (fun z15 wx => ∃ b, z15 = .pointer (some ⟨b, 0, none⟩) /\ wx.heap[b]? = some (.cells #[.int .i64 q.look, .int .i64 1, .int .i64 (-1), .slice none 0 0, .bool false, .int .i64 lev] 58 (0, 0)) /\ RV g q w nb wx /\ w.heap.size + 1 + 1 < b /\ nb < b)
    case first =>
     have HS : Hid (∀ w', RV g q w nb w' -> (fun w' : World => w'.cell? ⟨w.heap.size, 0, none⟩ = some (.slice g.ta g.ts.length g.tc) /\ w'.cell? ⟨w.heap.size, 1, none⟩ = some (.slice g.na g.ns.length g.nc) /\ w'.cell? ⟨w.heap.size, 2, none⟩ = some (.int .i64 g.start) /\ w'.cell? ⟨w.heap.size, 3, none⟩ = some (.slice g.pa g.ps.length g.pc) /\ w'.cell? ⟨w.heap.size, 4, none⟩ = some (.slice g.la g.ls.length g.lc) /\ w'.cell? ⟨w.heap.size + 1, 1, none⟩ = some (.int .i64 q.look)) w') := fun w' h2 => by
      obtain ⟨a0, a1, a2, a3, a4⟩ := gb_cells h2.gb
      obtain ⟨b0, b1, b2, b3⟩ := cb_cells (q := q) h2.cb
      exact ⟨a0, a1, a2, a3, a4, b1⟩
     have SD : Hid (RV g q w nb wr.drew) := HV.out.drew
     have hs : Hid ((fun w' : World => w'.cell? ⟨w.heap.size, 0, none⟩ = some (.slice g.ta g.ts.length g.tc) /\ w'.cell? ⟨w.heap.size, 1, none⟩ = some (.slice g.na g.ns.length g.nc) /\ w'.cell? ⟨w.heap.size, 2, none⟩ = some (.int .i64 g.start) /\ w'.cell? ⟨w.heap.size, 3, none⟩ = some (.slice g.pa g.ps.length g.pc) /\ w'.cell? ⟨w.heap.size, 4, none⟩ = some (.slice g.la g.ls.length g.lc) /\ w'.cell? ⟨w.heap.size + 1, 1, none⟩ = some (.int .i64 q.look)) wr.drew) := HS.out _ SD.out
     refine wp_region_x (S := fun _ => (fun w' : World => w'.cell? ⟨w.heap.size, 0, none⟩ = some (.slice g.ta g.ts.length g.tc) /\ w'.cell? ⟨w.heap.size, 1, none⟩ = some (.slice g.na g.ns.length g.nc) /\ w'.cell? ⟨w.heap.size, 2, none⟩ = some (.int .i64 g.start) /\ w'.cell? ⟨w.heap.size, 3, none⟩ = some (.slice g.pa g.ps.length g.pc) /\ w'.cell? ⟨w.heap.size, 4, none⟩ = some (.slice g.la g.ls.length g.lc) /\ w'.cell? ⟨w.heap.size + 1, 1, none⟩ = some (.int .i64 q.look))) (by kernel_rfl) ?_
     refine takeF (i := 0) (v := ?_) rfl (by kernel_rfl) (by decide +kernel) (by decide +kernel) (fun _ _ _ h => h) (Or.inl ⟨by rfl, ?_⟩) hs.out ?_
     rotate_left
     ·(intro w hSw; (try dsimp only at hSw); go_simp; try (with_reducible rfl))
     (try simp only [Act.put, lsA, lsZ, lsN])
     refine takeF (i := 1) (v := ?_) rfl (by kernel_rfl) (by decide +kernel) (by decide +kernel) (fun _ _ _ h => h) (Or.inl ⟨by rfl, ?_⟩) hs.out ?_
     rotate_left
     ·(intro w hSw; (try dsimp only at hSw); go_simp; try (with_reducible rfl))
     (try simp only [Act.put, lsA, lsZ, lsN])
     refine takeF (i := 2) (v := ?_) rfl (by kernel_rfl) (by decide +kernel) (by decide +kernel) (fun _ _ _ h => h) (Or.inl ⟨by rfl, ?_⟩) hs.out ?_
     rotate_left
     ·(intro w hSw; (try dsimp only at hSw); go_simp; try (with_reducible rfl))
     (try simp only [Act.put, lsA, lsZ, lsN])
     refine takeF (i := 3) (v := ?_) rfl (by kernel_rfl) (by decide +kernel) (by decide +kernel) (fun _ _ _ h => h) (Or.inl ⟨by rfl, ?_⟩) hs.out ?_
     rotate_left
     ·(intro w hSw; (try dsimp only at hSw); go_simp; try (with_reducible rfl))
     (try simp only [Act.put, lsA, lsZ, lsN])
     refine takeF (i := 4) (v := ?_) rfl (by kernel_rfl) (by decide +kernel) (by decide +kernel) (fun _ _ _ h => h) (Or.inl ⟨by rfl, ?_⟩) hs.out ?_
     rotate_left
     ·(intro w hSw; (try dsimp only at hSw); go_simp; try (with_reducible rfl))
     (try simp only [Act.put, lsA, lsZ, lsN])
     refine pickA (i := 5) (j := 7) (by decide +kernel) rfl rfl (fun K' hK => ?_) (fun K' hK => ?_)
     ·refine step_callX (by rfl) 39 #[g.val, .int .i64 q.look] _ (by apply run_call2 (enters_of Tryz.func39 (by kernel_rfl) rfl) <;> rfl) (LV.out _ SD.out.bel) ?_
      rintro e w3 ⟨rfl, b3⟩
      have N3 : Hid (RV g q w nb w3) := SD.out.later b3
      have hs3 : Hid ((fun w' : World => w'.cell? ⟨w.heap.size, 0, none⟩ = some (.slice g.ta g.ts.length g.tc) /\ w'.cell? ⟨w.heap.size, 1, none⟩ = some (.slice g.na g.ns.length g.nc) /\ w'.cell? ⟨w.heap.size, 2, none⟩ = some (.int .i64 g.start) /\ w'.cell? ⟨w.heap.size, 3, none⟩ = some (.slice g.pa g.ps.length g.pc) /\ w'.cell? ⟨w.heap.size, 4, none⟩ = some (.slice g.la g.ls.length g.lc) /\ w'.cell? ⟨w.heap.size + 1, 1, none⟩ = some (.int .i64 q.look)) w3) := HS.out _ N3.out
      have HLT : Hid (w.heap.size + 1 + 1 < w3.heap.size /\ nb < w3.heap.size) := N3.out.lt
      refine ⟨_, rfl, hK.out _ _ hs3.out ?_⟩
      clear hK K' b3
      (try simp only [Act.put, lsA, lsZ, lsN])
      refine takeF (i := 6) (v := ?_) rfl (by kernel_rfl) (by decide +kernel) (by decide +kernel) (fun _ _ _ h => h) (Or.inl ⟨by rfl, ?_⟩) hs3.out ?_
      rotate_left
      ·(intro w hSw; (try dsimp only at hSw); go_simp; try (with_reducible rfl))
      (try simp only [Act.put, lsA, lsZ, lsN])
      refine wpAnyX_one (j := 7) (by decide +kernel) rfl (fun K' hK => ?_)
      go_simp
      have N4 : Hid (RV g q w nb (w3.alloc dZero) /\ (w3.alloc dZero).heap[w3.heap.size]? = some (.cells #[.int .i64 0, .int .i64 0, .int .i64 0, .slice none 0 0, .bool false, .int .i64 0] 58 (0, 0))) := ⟨N3.out.later (below_alloc _ _), heap_alloc_new w3 dZero⟩
      refine hK.out _ _ (HS.out _ N4.out.1) ?_
      clear hK K'
      (try simp only [Act.put, lsA, lsZ, lsN])
      obtain ⟨⟨z0, z1, z2, z3, z4, z5⟩, ⟨f0, f1, f2, f3, f4, f5⟩, hzz⟩ := dz_cells N4.out.2
      refine wpAnyX_one (j := 8) (by decide +kernel) rfl (fun K' hK => ?_)
      go_simp
      have RVE : Hid (RV g q w nb (w3.alloc (.cells #[.int .i64 q.look, .int .i64 1, .int .i64 (-1), .slice none 0 0, .bool false, .int .i64 lev] 58))) := N3.out.later (below_alloc _ _)
      have HBX : Hid ((w3.alloc (.cells #[.int .i64 q.look, .int .i64 1, .int .i64 (-1), .slice none 0 0, .bool false, .int .i64 lev] 58)).heap[w3.heap.size]? = some (.cells #[.int .i64 q.look, .int .i64 1, .int .i64 (-1), .slice none 0 0, .bool false, .int .i64 lev] 58 (0, 0))) := heap_alloc_new w3 _
      refine hK.out _ _ (HS.out _ RVE.out) ?_
      clear hK K' z0 z1 z2 z3 z4 z5 f0 f1 f2 f3 f4 f5 hzz
      (try simp only [Act.put, lsA, lsZ, lsN])
      refine wpAnyX_done (by decide +kernel) ?_
      generalize (w3.alloc (.cells #[.int .i64 q.look, .int .i64 1, .int .i64 (-1), .slice none 0 0, .bool false, .int .i64 lev] 58)) = W4 at *
      go_wp2_with fail
      go_meet
      case rel => exact ⟨_, rfl, HBX.out, RVE.out, HLT.out⟩
     ·go_simp
      have N4 : Hid (RV g q w nb (wr.drew.alloc dZero) /\ (wr.drew.alloc dZero).heap[wr.heap.size]? = some (.cells #[.int .i64 0, .int .i64 0, .int .i64 0, .slice none 0 0, .bool false, .int .i64 0] 58 (0, 0))) := ⟨SD.out.later (below_alloc _ _), heap_alloc_new wr.drew dZero⟩
      have hs4 : Hid ((fun w' : World => w'.cell? ⟨w.heap.size, 0, none⟩ = some (.slice g.ta g.ts.length g.tc) /\ w'.cell? ⟨w.heap.size, 1, none⟩ = some (.slice g.na g.ns.length g.nc) /\ w'.cell? ⟨w.heap.size, 2, none⟩ = some (.int .i64 g.start) /\ w'.cell? ⟨w.heap.size, 3, none⟩ = some (.slice g.pa g.ps.length g.pc) /\ w'.cell? ⟨w.heap.size, 4, none⟩ = some (.slice g.la g.ls.length g.lc) /\ w'.cell? ⟨w.heap.size + 1, 1, none⟩ = some (.int .i64 q.look)) (wr.drew.alloc dZero)) := HS.out _ N4.out.1
      have HLT : Hid (w.heap.size + 1 + 1 < wr.heap.size /\ nb < wr.heap.size) := HV.out.lt
      refine hK.out _ _ hs4.out ?_
      clear hK K'
      (try simp only [Act.put, lsA, lsZ, lsN])
      refine wpAnyX_one (j := 5) (by decide +kernel) rfl (fun K' hK => ?_)
      refine step_callX (by rfl) 39 #[g.val, .int .i64 q.look] _ (by apply run_call2 (enters_of Tryz.func39 (by kernel_rfl) rfl) <;> rfl) (LV.out _ N4.out.1.bel) ?_
      rintro e w3 ⟨rfl, b3⟩
      have N5 : Hid (RV g q w nb w3 /\ w3.heap[wr.heap.size]? = some (.cells #[.int .i64 0, .int .i64 0, .int .i64 0, .slice none 0 0, .bool false, .int .i64 0] 58 (0, 0))) := ⟨N4.out.1.later b3, blk_later N4.out.2 b3⟩
      have hs5 : Hid ((fun w' : World => w'.cell? ⟨w.heap.size, 0, none⟩ = some (.slice g.ta g.ts.length g.tc) /\ w'.cell? ⟨w.heap.size, 1, none⟩ = some (.slice g.na g.ns.length g.nc) /\ w'.cell? ⟨w.heap.size, 2, none⟩ = some (.int .i64 g.start) /\ w'.cell? ⟨w.heap.size, 3, none⟩ = some (.slice g.pa g.ps.length g.pc) /\ w'.cell? ⟨w.heap.size, 4, none⟩ = some (.slice g.la g.ls.length g.lc) /\ w'.cell? ⟨w.heap.size + 1, 1, none⟩ = some (.int .i64 q.look)) w3) := HS.out _ N5.out.1
      refine ⟨_, rfl, hK.out _ _ hs5.out ?_⟩
      clear hK K' b3
      (try simp only [Act.put, lsA, lsZ, lsN])
      refine takeF (i := 6) (v := ?_) rfl (by kernel_rfl) (by decide +kernel) (by decide +kernel) (fun _ _ _ h => h) (Or.inl ⟨by rfl, ?_⟩) hs5.out ?_
      rotate_left
      ·(intro w hSw; (try dsimp only at hSw); go_simp; try (with_reducible rfl))
      (try simp only [Act.put, lsA, lsZ, lsN])
      obtain ⟨⟨z0, z1, z2, z3, z4, z5⟩, ⟨f0, f1, f2, f3, f4, f5⟩, hzz⟩ := dz_cells N5.out.2
      refine wpAnyX_one (j := 8) (by decide +kernel) rfl (fun K' hK => ?_)
      go_simp
      have RVE : Hid (RV g q w nb ((((((w3.setCell ⟨wr.heap.size, 0, none⟩ (.int .i64 q.look)).setCell ⟨wr.heap.size, 1, none⟩ (.int .i64 1)).setCell ⟨wr.heap.size, 2, none⟩ (.int .i64 (-1))).setCell ⟨wr.heap.size, 3, none⟩ (.slice none 0 0)).setCell ⟨wr.heap.size, 4, none⟩ (.bool false)).setCell ⟨wr.heap.size, 5, none⟩ (.int .i64 lev))) := (RV.six SD.out (Nat.le_refl _) N5.out.1 N5.out.2 (.int .i64 q.look) (.int .i64 1) (.int .i64 (-1)) (.slice none 0 0) (.bool false) (.int .i64 lev)).1
      have HBX : Hid (((((((w3.setCell ⟨wr.heap.size, 0, none⟩ (.int .i64 q.look)).setCell ⟨wr.heap.size, 1, none⟩ (.int .i64 1)).setCell ⟨wr.heap.size, 2, none⟩ (.int .i64 (-1))).setCell ⟨wr.heap.size, 3, none⟩ (.slice none 0 0)).setCell ⟨wr.heap.size, 4, none⟩ (.bool false)).setCell ⟨wr.heap.size, 5, none⟩ (.int .i64 lev)).heap[wr.heap.size]? = some (.cells #[.int .i64 q.look, .int .i64 1, .int .i64 (-1), .slice none 0 0, .bool false, .int .i64 lev] 58 (0, 0))) := (RV.six SD.out (Nat.le_refl _) N5.out.1 N5.out.2 (.int .i64 q.look) (.int .i64 1) (.int .i64 (-1)) (.slice none 0 0) (.bool false) (.int .i64 lev)).2
      refine hK.out _ _ (HS.out _ RVE.out) ?_
      clear hK K' z0 z1 z2 z3 z4 z5 f0 f1 f2 f3 f4 f5 hzz
      (try simp only [Act.put, lsA, lsZ, lsN])
      refine wpAnyX_done (by decide +kernel) ?_
      generalize ((((((w3.setCell ⟨wr.heap.size, 0, none⟩ (.int .i64 q.look)).setCell ⟨wr.heap.size, 1, none⟩ (.int .i64 1)).setCell ⟨wr.heap.size, 2, none⟩ (.int .i64 (-1))).setCell ⟨wr.heap.size, 3, none⟩ (.slice none 0 0)).setCell ⟨wr.heap.size, 4, none⟩ (.bool false)).setCell ⟨wr.heap.size, 5, none⟩ (.int .i64 lev)) = W4 at *
      go_wp2_with fail
      go_meet
      case rel => exact ⟨_, rfl, HBX.out, RVE.out, HLT.out⟩
    case rest =>
     obtain ⟨b, rfl, hbx, hV2, hlt2⟩ := hcut
     have L00 : Hid (RL g q w nb b lev [] (.slice none 0 0) wc) := ⟨hV2, hbx, RO.nil _, fun j hj => by simp [Value.ownBlock] at hj, hlt2⟩
     clear hbx hV2 hlt2 HV y0 y1 y2 y3
     go_wp2
     go_loopw [16] (fun z wr => ∃ (j : Nat) (va : Option Addr) (vn vc : Nat), j <= q.red.length /\ z = .int .i64 (j : Int) /\ RL g q w nb b lev ((q.red.take j).filter fun p => decide (p ≠ s0)) (.slice va vn vc) wr) (fun z _ => q.red.length - (intOf z).toNat)
     case atStart => exact ⟨0, none, 0, 0, Nat.zero_le _, rfl, L00.out⟩
     case round =>
      clear L00
      obtain ⟨j, va, vn, vc, hj, rfl, hL⟩ := hrel
      obtain ⟨y0, y1, y2, y3⟩ := cb_cells (q := q) hL.rv.cb
      by_cases hjl : j < q.red.length
      ·have jlt : (j : Int) < (q.red.length : Int) := by omega
       rw [HRA.out] at y3
       have cx := RW.out wr hL.rv.bel j hjl
       have htf := take_filt hjl (fun p => decide (p ≠ s0))
       have hfl : ((q.red.take j).filter fun p => decide (p ≠ s0)).length <= 1000000000 := by
        have h1 := List.length_filter_le (fun p => decide (p ≠ s0)) (q.red.take j)
        rw [List.length_take] at h1
        have h2 := HK5.out
        omega
       generalize hp : q.red.getD j 0 = p at cx htf
       have HPJ : Hid (q.red.getD j 0 = p) := hp
       obtain ⟨lf, hlf⟩ : ∃ lf, ((q.red.take j).filter fun p => decide (p ≠ s0)) = lf := ⟨_, rfl⟩
       rw [hlf] at hL htf hfl
       have HL : Hid (RL g q w nb b lev lf (.slice va vn vc) wr) := hL
       have HLF : Hid (lf.length <= 1000000000) := hfl
       clear hL hp hlf hfl
       by_cases hps : p = s0
       ·subst hps
        have HTF : Hid ((q.red.take (j + 1)).filter (fun x => decide (x ≠ p)) = lf) := by
         show _ = _
         rw [htf]
         simp
        clear htf
        go_wp2
        go_roundw
        case rel => exact ⟨j + 1, va, vn, vc, by omega, by go_num, by rw [HTF.out]; exact HL.out⟩
        case measure => simp [intOf]; omega
       ·have hpb : (p != s0) = true := by simpa using hps
        have HTF : Hid ((q.red.take (j + 1)).filter (fun x => decide (x ≠ s0)) = lf ++ [p]) := by
         show _ = _
         rw [htf]
         simp [hps]
        clear htf hps
        go_wp2
        have HSA : Hid (∀ w', RV g q w nb w' -> (fun w' : World => w'.cell? ⟨w.heap.size + 1, 3, none⟩ = some (.slice (some ⟨rb, ro, none⟩) q.red.length q.rc) /\ w'.cell? ⟨rb, ro + j, none⟩ = some (.int .i64 p)) w') := fun w' h2 => by
         obtain ⟨b0, b1, b2, b3⟩ := cb_cells (q := q) h2.cb
         rw [HRA.out] at b3
         have c := RW.out _ h2.bel j hjl
         rw [HPJ.out] at c
         exact ⟨b3, c⟩
        have L0 : Hid (RL g q w nb b lev lf (.slice va vn vc) wr.drew) := HL.out.later (Below.refl _ _).drew
        have hsA : Hid ((fun w' : World => w'.cell? ⟨w.heap.size + 1, 3, none⟩ = some (.slice (some ⟨rb, ro, none⟩) q.red.length q.rc) /\ w'.cell? ⟨rb, ro + j, none⟩ = some (.int .i64 p)) wr.drew) := HSA.out _ L0.out.rv
        have hsB : Hid ((fun w' : World => w'.cell? ⟨b, 3, none⟩ = some (.slice va vn vc)) wr.drew) := (cellq_any L0.out.bx).trans rfl
        refine wp_region_x (S := SX 10 (fun w' : World => w'.cell? ⟨w.heap.size + 1, 3, none⟩ = some (.slice (some ⟨rb, ro, none⟩) q.red.length q.rc) /\ w'.cell? ⟨rb, ro + j, none⟩ = some (.int .i64 p)) (fun w' : World => w'.cell? ⟨b, 3, none⟩ = some (.slice va vn vc))) (by kernel_rfl) ?_
        refine takeK 10 7 (i := 0) (v := ?_) rfl (by kernel_rfl) (by kernel_rfl) (by decide) (by decide) (by decide +kernel) (by decide +kernel) (fun _ _ _ h => h) (by kernel_rfl) (Or.inl ⟨by rfl, ?_⟩) (SX.both hsA.out hsB.out) ?_
        rotate_left
        ·(intro w hSw; (try dsimp only at hSw); go_simp; try (with_reducible rfl))
        (try simp only [Act.put, lsA, lsZ, lsN])
        refine takeK 10 7 (i := 1) (v := ?_) rfl (by kernel_rfl) (by kernel_rfl) (by decide) (by decide) (by decide +kernel) (by decide +kernel) (fun _ _ _ h => h) (by kernel_rfl) (Or.inl ⟨by rfl, ?_⟩) (SX.both hsA.out hsB.out) ?_
        rotate_left
        ·(intro w hSw; (try dsimp only at hSw); go_simp; try (with_reducible rfl))
        (try simp only [Act.put, lsA, lsZ, lsN])
        refine takeK 10 7 (i := 2) (v := ?_) rfl (by kernel_rfl) (by kernel_rfl) (by decide) (by decide) (by decide +kernel) (by decide +kernel) (fun _ _ _ h => h) (by kernel_rfl) (Or.inl ⟨by rfl, ?_⟩) (SX.both hsA.out hsB.out) ?_
        rotate_left
        ·(intro w hSw; (try dsimp only at hSw); go_simp; try (with_reducible rfl))
        (try simp only [Act.put, lsA, lsZ, lsN])
        refine takeK 10 7 (i := 3) (v := ?_) rfl (by kernel_rfl) (by kernel_rfl) (by decide) (by decide) (by decide +kernel) (by decide +kernel) (fun _ _ _ h => h) (by kernel_rfl) (Or.inl ⟨by rfl, ?_⟩) (SX.both hsA.out hsB.out) ?_
        rotate_left
        ·(intro w hSw; (try dsimp only at hSw); go_simp; try (with_reducible rfl))
        (try simp only [Act.put, lsA, lsZ, lsN])
        refine takeK 10 7 (i := 4) (v := ?_) rfl (by kernel_rfl) (by kernel_rfl) (by decide) (by decide) (by decide +kernel) (by decide +kernel) (fun _ _ _ h => h) (by kernel_rfl) (Or.inl ⟨by rfl, ?_⟩) (SX.both hsA.out hsB.out) ?_
        rotate_left
        ·(intro w hSw; (try dsimp only at hSw); go_simp; try (with_reducible rfl))
        (try simp only [Act.put, lsA, lsZ, lsN])
        refine takeK 10 7 (i := 5) (v := ?_) rfl (by kernel_rfl) (by kernel_rfl) (by decide) (by decide) (by decide +kernel) (by decide +kernel) (fun _ _ _ h => h) (by kernel_rfl) (Or.inl ⟨by rfl, ?_⟩) (SX.both hsA.out hsB.out) ?_
        rotate_left
        ·(intro w hSw; (try dsimp only at hSw); go_simp; try (with_reducible rfl))
        (try simp only [Act.put, lsA, lsZ, lsN])
        refine takeK 10 7 (i := 6) (v := ?_) rfl (by kernel_rfl) (by kernel_rfl) (by decide) (by decide) (by decide +kernel) (by decide +kernel) (fun _ _ _ h => h) (by kernel_rfl) (Or.inl ⟨by rfl, ?_⟩) (SX.both hsA.out hsB.out) ?_
        rotate_left
        ·(intro w hSw; (try dsimp only at hSw); go_simp; try (with_reducible rfl))
        (try simp only [Act.put, lsA, lsZ, lsN])
        refine wpAnyX_one (j := 7) (by decide +kernel) rfl (fun K' hK => ?_)
        go_simp
        have L1 : Hid (RL g q w nb b lev lf (.slice va vn vc) (wr.drew.alloc (.cells #[.int .i64 p] 3))) := L0.out.later (below_alloc _ _)
        have HN1 : Hid ((wr.drew.alloc (.cells #[.int .i64 p] 3)).heap[wr.heap.size]? = some (.cells #[.int .i64 p] 3 (0, 0))) := heap_alloc_new wr.drew _
        refine hK.out _ _ (SX.both (HSA.out _ L1.out.rv) ((cellq_any L1.out.bx).trans rfl)) ?_
        clear hK K'
        (try simp only [Act.put, lsA, lsZ, lsN])
        refine wpAnyX_one (j := 8) (by decide +kernel) rfl (fun K' hK => ?_)
        refine step_ro_append rkInt (by rfl) _ _ (by rfl) (.slice va vn vc) lf (by rfl) L1.out.ro wr.heap.size 1 p (by rfl) (fun k u hu => ?_) HLF.out ?_
        ·refine Eq.trans (cellq_any (i := k) HN1.out) ?_
         match k with
         | 0 => simpa [inC] using hu
         | k + 1 => simp [inC] at hu
        intro a6 n6 c6 w6 ho6 hg6
        obtain ⟨p1, p2, p3, p4⟩ := L1.out.push ho6 hg6
        have L6 : Hid (RL g q w nb b lev (lf ++ [p]) (.slice a6 n6 c6) (w6.setCell ⟨b, 3, none⟩ (.slice a6 n6 c6)) /\ RV g q w nb w6) := ⟨p1, p2⟩
        refine hK.out _ _ (SX.both (HSA.out _ L6.out.2) p3) ?_
        clear hK K' p1 p2 ho6 hg6
        (try simp only [Act.put, lsA, lsZ, lsN])
        refine wpAnyX_one (j := 9) (by decide +kernel) rfl (fun K' hK => ?_)
        go_simp
        refine hK.out _ _ (SX.both (HSA.out _ L6.out.2) p3) ?_
        clear hK K'
        (try simp only [Act.put, lsA, lsZ, lsN])
        refine wpAnyX_one (j := 10) (by decide +kernel) rfl (fun K' hK => ?_)
        go_simp
        refine hK.out _ _ (SX.one (HSA.out _ L6.out.1.rv) (by kernel_rfl)) ?_
        clear hK K' p3 p4
        (try simp only [Act.put, lsA, lsZ, lsN])
        refine wpAnyX_done (by decide +kernel) ?_
        clear hsA hsB HSA L0 L1 HN1
        go_wp2
        go_roundw
        case rel => exact ⟨j + 1, a6, n6, c6, by omega, by go_num, by rw [HTF.out]; exact L6.out.1⟩
        case measure => simp [intOf]; omega
      ·obtain rfl : j = q.red.length := by omega
       have jlt : ¬ (q.red.length : Int) < (q.red.length : Int) := by omega
       rw [List.take_length] at hL
       obtain ⟨lf, hlf⟩ : ∃ lf, (q.red.filter fun p => decide (p ≠ s0)) = lf := ⟨_, rfl⟩
       rw [hlf] at hL HEN2
       have HL : Hid (RL g q w nb b lev lf (.slice va vn vc) wr) := hL
       have e0c : wr.cell? ⟨b, 0, none⟩ = some (.int .i64 q.look) := (cellq_any hL.bx).trans rfl
       have e1c : wr.cell? ⟨b, 1, none⟩ = some (.int .i64 1) := (cellq_any hL.bx).trans rfl
       have e2c : wr.cell? ⟨b, 2, none⟩ = some (.int .i64 (-1)) := (cellq_any hL.bx).trans rfl
       have e3c : wr.cell? ⟨b, 3, none⟩ = some (.slice va vn vc) := (cellq_any hL.bx).trans rfl
       have e4c : wr.cell? ⟨b, 4, none⟩ = some (.bool false) := (cellq_any hL.bx).trans rfl
       have e5c : wr.cell? ⟨b, 5, none⟩ = some (.int .i64 lev) := (cellq_any hL.bx).trans rfl
       have g1 := frostS hL.bx 1
       have g2 := frostS hL.bx 2
       have g4 := frostS hL.bx 4
       have g5 := frostS hL.bx 5
       clear hL hlf
       by_cases h0 : 0 <= s0
       ·have h0d : decide (0 <= s0) = true := decide_eq_true h0
        have HEN3 : Hid (resU g q.look q.shift q.red = ⟨q.look, 2, s0, lf, true, b0⟩) := by show _ = _; rw [HEN2.out, if_pos h0]
        clear HEN2
        go_upto_region 42 with fail
        have E7 : Hid (RE g q w nb b #[.int .i64 q.look, .int .i64 2, .int .i64 s0, .slice va vn vc, .bool true, .int .i64 b0] lf (.slice va vn vc) ((((wr.setCell ⟨b, 1, none⟩ (.int .i64 2)).setCell ⟨b, 2, none⟩ (.int .i64 s0)).setCell ⟨b, 4, none⟩ (.bool true)).setCell ⟨b, 5, none⟩ (.int .i64 b0))) := ((((HL.out.re.set 1 (.int .i64 2)).set 2 (.int .i64 s0)).set 4 (.bool true)).set 5 (.int .i64 b0))
        clear HL e0c e1c e2c e3c e4c e5c g1 g2 g4 g5 y0 y1 y2 y3 h0
        try clear ilt
        try clear jlt
        generalize ((((wr.setCell ⟨b, 1, none⟩ (.int .i64 2)).setCell ⟨b, 2, none⟩ (.int .i64 s0)).setCell ⟨b, 4, none⟩ (.bool true)).setCell ⟨b, 5, none⟩ (.int .i64 b0)) = W7 at *
        have e0c : W7.cell? ⟨b, 0, none⟩ = some (.int .i64 q.look) := (cellq_any E7.out.bx).trans rfl
        have e1c : W7.cell? ⟨b, 1, none⟩ = some (.int .i64 2) := (cellq_any E7.out.bx).trans rfl
        have e2c : W7.cell? ⟨b, 2, none⟩ = some (.int .i64 s0) := (cellq_any E7.out.bx).trans rfl
        have e3c : W7.cell? ⟨b, 3, none⟩ = some (.slice va vn vc) := (cellq_any E7.out.bx).trans rfl
        have e4c : W7.cell? ⟨b, 4, none⟩ = some (.bool true) := (cellq_any E7.out.bx).trans rfl
        have e5c : W7.cell? ⟨b, 5, none⟩ = some (.int .i64 b0) := (cellq_any E7.out.bx).trans rfl
        obtain ⟨⟨z0, z1, z2, z3, z4, z5⟩, ⟨f0, f1, f2, f3, f4, f5⟩, hzz⟩ := dz_cells E7.out.rv.rb
        go_wp2
        obtain ⟨q1, q2, q3⟩ := six_set E7.out.rv.rb (.int .i64 q.look) (.int .i64 2) (.int .i64 s0) (.slice va vn vc) (.bool true) (.int .i64 b0)
        have q4 := q3 _ _ E7.out.rv.bel (by omega)
        have ROE : Hid (RO 3 1 inC ((((((W7.setCell ⟨w.heap.size + 1 + 1, 0, none⟩ (.int .i64 q.look)).setCell ⟨w.heap.size + 1 + 1, 1, none⟩ (.int .i64 2)).setCell ⟨w.heap.size + 1 + 1, 2, none⟩ (.int .i64 s0)).setCell ⟨w.heap.size + 1 + 1, 3, none⟩ (.slice va vn vc)).setCell ⟨w.heap.size + 1 + 1, 4, none⟩ (.bool true)).setCell ⟨w.heap.size + 1 + 1, 5, none⟩ (.int .i64 b0)) (.slice va vn vc) lf) := E7.out.ro.kept (fun j hj => q2 j (RE.ne E7.out hj))
        have VNL : Hid (vn = lf.length) := E7.out.ro.vn
        generalize ((((((W7.setCell ⟨w.heap.size + 1 + 1, 0, none⟩ (.int .i64 q.look)).setCell ⟨w.heap.size + 1 + 1, 1, none⟩ (.int .i64 2)).setCell ⟨w.heap.size + 1 + 1, 2, none⟩ (.int .i64 s0)).setCell ⟨w.heap.size + 1 + 1, 3, none⟩ (.slice va vn vc)).setCell ⟨w.heap.size + 1 + 1, 4, none⟩ (.bool true)).setCell ⟨w.heap.size + 1 + 1, 5, none⟩ (.int .i64 b0)) = W4 at *
        have r0 : W4.cell? ⟨w.heap.size + 1 + 1, 0, none⟩ = some (.int .i64 q.look) := (cellq_any q1).trans rfl
        have r1 : W4.cell? ⟨w.heap.size + 1 + 1, 1, none⟩ = some (.int .i64 2) := (cellq_any q1).trans rfl
        have r2 : W4.cell? ⟨w.heap.size + 1 + 1, 2, none⟩ = some (.int .i64 s0) := (cellq_any q1).trans rfl
        have r3 : W4.cell? ⟨w.heap.size + 1 + 1, 3, none⟩ = some (.slice va vn vc) := (cellq_any q1).trans rfl
        have r4 : W4.cell? ⟨w.heap.size + 1 + 1, 4, none⟩ = some (.bool true) := (cellq_any q1).trans rfl
        have r5 : W4.cell? ⟨w.heap.size + 1 + 1, 5, none⟩ = some (.int .i64 b0) := (cellq_any q1).trans rfl
        refine bodyPost_ret (v := .tuple #[.agg #[.int .i64 q.look, .int .i64 2, .int .i64 s0, .slice va vn vc, .bool true, .int .i64 b0], .int .i64 0]) (by simp [results, Tryz.results14, go_sem, r0, r1, r2, r3, r4, r5]) rfl ?_
        exact ⟨va, vc, by rw [HEN3.out, VNL.out], by rw [HEN3.out]; exact ROE.out.rwo (fun j hj => RE.big E7.out hj), q4⟩
       ·have h0d : decide (0 <= s0) = false := decide_eq_false h0
        by_cases h1 : 0 <= e0
        ·have h1d : decide (0 <= e0) = true := decide_eq_true h1
         have HEN3 : Hid (resU g q.look q.shift q.red = ⟨q.look, 3, -1, lf, true, e0⟩) := by show _ = _; rw [HEN2.out, if_neg h0, if_pos h1]
         clear HEN2
         go_upto_region 42 with fail
         have E7 : Hid (RE g q w nb b #[.int .i64 q.look, .int .i64 3, .int .i64 (-1), .slice va vn vc, .bool true, .int .i64 e0] lf (.slice va vn vc) (((wr.setCell ⟨b, 1, none⟩ (.int .i64 3)).setCell ⟨b, 4, none⟩ (.bool true)).setCell ⟨b, 5, none⟩ (.int .i64 e0))) := (((HL.out.re.set 1 (.int .i64 3)).set 4 (.bool true)).set 5 (.int .i64 e0))
         clear HL e0c e1c e2c e3c e4c e5c g1 g2 g4 g5 y0 y1 y2 y3 h0
         clear h1
         try clear ilt
         try clear jlt
         generalize (((wr.setCell ⟨b, 1, none⟩ (.int .i64 3)).setCell ⟨b, 4, none⟩ (.bool true)).setCell ⟨b, 5, none⟩ (.int .i64 e0)) = W7 at *
         have e0c : W7.cell? ⟨b, 0, none⟩ = some (.int .i64 q.look) := (cellq_any E7.out.bx).trans rfl
         have e1c : W7.cell? ⟨b, 1, none⟩ = some (.int .i64 3) := (cellq_any E7.out.bx).trans rfl
         have e2c : W7.cell? ⟨b, 2, none⟩ = some (.int .i64 (-1)) := (cellq_any E7.out.bx).trans rfl
         have e3c : W7.cell? ⟨b, 3, none⟩ = some (.slice va vn vc) := (cellq_any E7.out.bx).trans rfl
         have e4c : W7.cell? ⟨b, 4, none⟩ = some (.bool true) := (cellq_any E7.out.bx).trans rfl
         have e5c : W7.cell? ⟨b, 5, none⟩ = some (.int .i64 e0) := (cellq_any E7.out.bx).trans rfl
         obtain ⟨⟨z0, z1, z2, z3, z4, z5⟩, ⟨f0, f1, f2, f3, f4, f5⟩, hzz⟩ := dz_cells E7.out.rv.rb
         go_wp2
         obtain ⟨q1, q2, q3⟩ := six_set E7.out.rv.rb (.int .i64 q.look) (.int .i64 3) (.int .i64 (-1)) (.slice va vn vc) (.bool true) (.int .i64 e0)
         have q4 := q3 _ _ E7.out.rv.bel (by omega)
         have ROE : Hid (RO 3 1 inC ((((((W7.setCell ⟨w.heap.size + 1 + 1, 0, none⟩ (.int .i64 q.look)).setCell ⟨w.heap.size + 1 + 1, 1, none⟩ (.int .i64 3)).setCell ⟨w.heap.size + 1 + 1, 2, none⟩ (.int .i64 (-1))).setCell ⟨w.heap.size + 1 + 1, 3, none⟩ (.slice va vn vc)).setCell ⟨w.heap.size + 1 + 1, 4, none⟩ (.bool true)).setCell ⟨w.heap.size + 1 + 1, 5, none⟩ (.int .i64 e0)) (.slice va vn vc) lf) := E7.out.ro.kept (fun j hj => q2 j (RE.ne E7.out hj))
         have VNL : Hid (vn = lf.length) := E7.out.ro.vn
         generalize ((((((W7.setCell ⟨w.heap.size + 1 + 1, 0, none⟩ (.int .i64 q.look)).setCell ⟨w.heap.size + 1 + 1, 1, none⟩ (.int .i64 3)).setCell ⟨w.heap.size + 1 + 1, 2, none⟩ (.int .i64 (-1))).setCell ⟨w.heap.size + 1 + 1, 3, none⟩ (.slice va vn vc)).setCell ⟨w.heap.size + 1 + 1, 4, none⟩ (.bool true)).setCell ⟨w.heap.size + 1 + 1, 5, none⟩ (.int .i64 e0)) = W4 at *
         have r0 : W4.cell? ⟨w.heap.size + 1 + 1, 0, none⟩ = some (.int .i64 q.look) := (cellq_any q1).trans rfl
         have r1 : W4.cell? ⟨w.heap.size + 1 + 1, 1, none⟩ = some (.int .i64 3) := (cellq_any q1).trans rfl
         have r2 : W4.cell? ⟨w.heap.size + 1 + 1, 2, none⟩ = some (.int .i64 (-1)) := (cellq_any q1).trans rfl
         have r3 : W4.cell? ⟨w.heap.size + 1 + 1, 3, none⟩ = some (.slice va vn vc) := (cellq_any q1).trans rfl
         have r4 : W4.cell? ⟨w.heap.size + 1 + 1, 4, none⟩ = some (.bool true) := (cellq_any q1).trans rfl
         have r5 : W4.cell? ⟨w.heap.size + 1 + 1, 5, none⟩ = some (.int .i64 e0) := (cellq_any q1).trans rfl
         refine bodyPost_ret (v := .tuple #[.agg #[.int .i64 q.look, .int .i64 3, .int .i64 (-1), .slice va vn vc, .bool true, .int .i64 e0], .int .i64 0]) (by simp [results, Tryz.results14, go_sem, r0, r1, r2, r3, r4, r5]) rfl ?_
         exact ⟨va, vc, by rw [HEN3.out, VNL.out], by rw [HEN3.out]; exact ROE.out.rwo (fun j hj => RE.big E7.out hj), q4⟩
        ·have h1d : decide (0 <= e0) = false := decide_eq_false h1
         have HEN3 : Hid (resU g q.look q.shift q.red = ⟨q.look, 1, -1, lf, false, lev⟩) := by show _ = _; rw [HEN2.out, if_neg h0, if_neg h1]
         clear HEN2
         go_upto_region 42 with fail
         have E7 : Hid (RE g q w nb b #[.int .i64 q.look, .int .i64 1, .int .i64 (-1), .slice va vn vc, .bool false, .int .i64 lev] lf (.slice va vn vc) wr) := HL.out.re
         clear HL e0c e1c e2c e3c e4c e5c g1 g2 g4 g5 y0 y1 y2 y3 h0
         clear h1
         try clear ilt
         try clear jlt
         obtain ⟨W7, rfl⟩ : ∃ W7 : World, W7 = wr := ⟨_, rfl⟩
         have e0c : W7.cell? ⟨b, 0, none⟩ = some (.int .i64 q.look) := (cellq_any E7.out.bx).trans rfl
         have e1c : W7.cell? ⟨b, 1, none⟩ = some (.int .i64 1) := (cellq_any E7.out.bx).trans rfl
         have e2c : W7.cell? ⟨b, 2, none⟩ = some (.int .i64 (-1)) := (cellq_any E7.out.bx).trans rfl
         have e3c : W7.cell? ⟨b, 3, none⟩ = some (.slice va vn vc) := (cellq_any E7.out.bx).trans rfl
         have e4c : W7.cell? ⟨b, 4, none⟩ = some (.bool false) := (cellq_any E7.out.bx).trans rfl
         have e5c : W7.cell? ⟨b, 5, none⟩ = some (.int .i64 lev) := (cellq_any E7.out.bx).trans rfl
         obtain ⟨⟨z0, z1, z2, z3, z4, z5⟩, ⟨f0, f1, f2, f3, f4, f5⟩, hzz⟩ := dz_cells E7.out.rv.rb
         go_wp2
         obtain ⟨q1, q2, q3⟩ := six_set E7.out.rv.rb (.int .i64 q.look) (.int .i64 1) (.int .i64 (-1)) (.slice va vn vc) (.bool false) (.int .i64 lev)
         have q4 := q3 _ _ E7.out.rv.bel (by omega)
         have ROE : Hid (RO 3 1 inC ((((((W7.setCell ⟨w.heap.size + 1 + 1, 0, none⟩ (.int .i64 q.look)).setCell ⟨w.heap.size + 1 + 1, 1, none⟩ (.int .i64 1)).setCell ⟨w.heap.size + 1 + 1, 2, none⟩ (.int .i64 (-1))).setCell ⟨w.heap.size + 1 + 1, 3, none⟩ (.slice va vn vc)).setCell ⟨w.heap.size + 1 + 1, 4, none⟩ (.bool false)).setCell ⟨w.heap.size + 1 + 1, 5, none⟩ (.int .i64 lev)) (.slice va vn vc) lf) := E7.out.ro.kept (fun j hj => q2 j (RE.ne E7.out hj))
         have VNL : Hid (vn = lf.length) := E7.out.ro.vn
         generalize ((((((W7.setCell ⟨w.heap.size + 1 + 1, 0, none⟩ (.int .i64 q.look)).setCell ⟨w.heap.size + 1 + 1, 1, none⟩ (.int .i64 1)).setCell ⟨w.heap.size + 1 + 1, 2, none⟩ (.int .i64 (-1))).setCell ⟨w.heap.size + 1 + 1, 3, none⟩ (.slice va vn vc)).setCell ⟨w.heap.size + 1 + 1, 4, none⟩ (.bool false)).setCell ⟨w.heap.size + 1 + 1, 5, none⟩ (.int .i64 lev)) = W4 at *
         have r0 : W4.cell? ⟨w.heap.size + 1 + 1, 0, none⟩ = some (.int .i64 q.look) := (cellq_any q1).trans rfl
         have r1 : W4.cell? ⟨w.heap.size + 1 + 1, 1, none⟩ = some (.int .i64 1) := (cellq_any q1).trans rfl
         have r2 : W4.cell? ⟨w.heap.size + 1 + 1, 2, none⟩ = some (.int .i64 (-1)) := (cellq_any q1).trans rfl
         have r3 : W4.cell? ⟨w.heap.size + 1 + 1, 3, none⟩ = some (.slice va vn vc) := (cellq_any q1).trans rfl
         have r4 : W4.cell? ⟨w.heap.size + 1 + 1, 4, none⟩ = some (.bool false) := (cellq_any q1).trans rfl
         have r5 : W4.cell? ⟨w.heap.size + 1 + 1, 5, none⟩ = some (.int .i64 lev) := (cellq_any q1).trans rfl
         refine bodyPost_ret (v := .tuple #[.agg #[.int .i64 q.look, .int .i64 1, .int .i64 (-1), .slice va vn vc, .bool false, .int .i64 lev], .int .i64 0]) (by simp [results, Tryz.results14, go_sem, r0, r1, r2, r3, r4, r5]) rfl ?_
         exact ⟨va, vc, by rw [HEN3.out, VNL.out], by rw [HEN3.out]; exact ROE.out.rwo (fun j hj => RE.big E7.out hj), q4⟩
end Go.Proofs.YtjpknihkcndoiaaGreat
