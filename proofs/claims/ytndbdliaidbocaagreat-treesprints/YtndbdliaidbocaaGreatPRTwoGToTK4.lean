import Derived.Test.YtndbdliaidbocaaGreatPTK0ToTK2
namespace Go.Proofs.YtndbdliaidbocaaGreat
set_option linter.unusedVariables false
open Go.RowKit
theorem wpAnyX_twoG {P : Program} {ops : Array Oper} {Q : Exit -> Act -> World -> Prop} {md : Region.Mode} {S : Array Bool -> World -> Prop} {β1 β2 : Type} {o1 o2 : Oper} {d1 d2 : Nat} {L : Array Bool} {a : Act} {w : World} {fuel : Nat} (j1 j2 : Nat) (h1 : ops.toList[j1]? = some o1) (h2 : ops.toList[j2]? = some o2)
  (e1 : o1.dst = some d1) (e2 : o2.dst = some d2) (hd : d1 ≠ d2)
  (r : Region.ready md ops L = [j1, j2]) (r1 : Region.ready md ops (L.setIfInBounds j1 true) = [j2]) (r2 : Region.ready md ops (L.setIfInBounds j2 true) = [j1])
  {I : World -> Prop} (hI : ∀ w' w'', I w' -> Below w'.heap.size w' w'' -> I w'') (hS : ∀ w' L', I w' -> S L' w')
  {T1 : β1 -> World -> Prop} {T2 : β2 -> World -> Prop} {f1 : β1 -> Value} {f2 : β2 -> Value} (t1 : ∀ b w' w'', T1 b w' -> Below w'.heap.size w' w'' -> T1 b w'') (t2 : ∀ b w' w'', T2 b w' -> Below w'.heap.size w' w'' -> T2 b w'')
  {At : Act -> Prop} (hAt : At a) (a1 : ∀ a v, At a -> At (a.put (some d1) v)) (a2 : ∀ a v, At a -> At (a.put (some d2) v))
  (s1 : ∀ (a : Act) (w : World) (K : Act -> World -> Prop), At a -> I w -> (∀ b w', Below w.heap.size w w' -> T1 b w' -> K (a.put o1.dst (f1 b)) w') -> if Region.wanted o1 (yielded ops a.tmps) = true then Oper.wp P o1 a w K Q else K (a.put o1.dst undef) w)
  (s2 : ∀ (a : Act) (w : World) (K : Act -> World -> Prop), At a -> I w -> (∀ b w', Below w.heap.size w w' -> T2 b w' -> K (a.put o2.dst (f2 b)) w') -> if Region.wanted o2 (yielded ops a.tmps) = true then Oper.wp P o2 a w K Q else K (a.put o2.dst undef) w) (hw : I w)
  (h : ∀ b1 b2 w', I w' -> Below w.heap.size w w' -> T1 b1 w' -> T2 b2 w' -> wpAnyX P md ops Q S fuel ((L.setIfInBounds j1 true).setIfInBounds j2 true) ((a.put (some d1) (f1 b1)).put (some d2) (f2 b2)) w') :
  wpAnyX P md ops Q S (fuel + 1 + 1) L a w := by
 have sc : ∀ (L : Array Bool) (i j : Nat), (L.setIfInBounds i true).setIfInBounds j true = (L.setIfInBounds j true).setIfInBounds i true := fun L i j => by
  by_cases h : i = j
  ·rw [h]
  ·exact Array.setIfInBounds_comm _ _ h
 have pc : ∀ (a : Act) (u v : Value), (a.put (some d2) u).put (some d1) v = (a.put (some d1) v).put (some d2) u := fun a u v => by
  simp only [Act.put, Act.mk.injEq, and_true]
  exact Array.setIfInBounds_comm _ _ (Ne.symm hd)
 refine pickT r (by simp) (fun j hj => ?_)
 simp only [List.mem_cons, List.not_mem_nil, or_false] at hj
 rcases hj with hj | hj <;> rw [hj]
 ·refine ⟨o1, h1, fun K' hK => s1 a w K' hAt hw fun b1 w1 B1 q1 => hK.out _ _ (hS _ _ (hI _ _ hw B1)) ?_⟩
  rw [e1]
  refine pickT r1 (by simp) (fun j hj => ?_)
  simp only [List.mem_cons, List.not_mem_nil, or_false] at hj
  rw [hj]
  refine ⟨o2, h2, fun K' hK => s2 _ w1 K' (a1 _ _ hAt) (hI _ _ hw B1) fun b2 w2 B2 q2 => hK.out _ _ (hS _ _ (hI _ _ (hI _ _ hw B1) B2)) ?_⟩
  rw [e2]
  exact h b1 b2 w2 (hI _ _ (hI _ _ hw B1) B2) (B1.trans (B2.mono B1.size)) (t1 _ _ _ q1 B2) q2
 ·refine ⟨o2, h2, fun K' hK => s2 a w K' hAt hw fun b2 w1 B1 q2 => hK.out _ _ (hS _ _ (hI _ _ hw B1)) ?_⟩
  rw [e2]
  refine pickT r2 (by simp) (fun j hj => ?_)
  simp only [List.mem_cons, List.not_mem_nil, or_false] at hj
  rw [hj]
  refine ⟨o1, h1, fun K' hK => s1 _ w1 K' (a2 _ _ hAt) (hI _ _ hw B1) fun b1 w2 B2 q1 => hK.out _ _ (hS _ _ (hI _ _ (hI _ _ hw B1) B2)) ?_⟩
  rw [e1]
  have g := h b1 b2 w2 (hI _ _ (hI _ _ hw B1) B2) (B1.trans (B2.mono B1.size)) q1 (t2 _ _ _ q2 B2)
  rw [sc _ j2 j1, pc]
  exact g
structure Lv (q N : Nat) (w w' : World) : Prop where
 os : w'.os = w.os
 tape : w'.tape = w.tape
 output : w'.output = w.output
 size : w.heap.size <= w'.heap.size
 blk : ∀ k, k < N -> k ≠ q -> w'.heap[k]? = w.heap[k]?
theorem Lv.ofBelow {q N : Nat} {w w' : World} (h : Below N w w') : Lv q N w w' := ⟨h.os, h.tape, h.output, h.size, fun k hk _ => h.block k hk⟩
theorem Lv.trans {q N : Nat} {a b c : World} (h : Lv q N a b) (k : Lv q N b c) : Lv q N a c := ⟨k.os.trans h.os, k.tape.trans h.tape, k.output.trans h.output, Nat.le_trans h.size k.size, fun z hz hq => (k.blk z hz hq).trans (h.blk z hz hq)⟩
theorem Lv.set {q N : Nat} {w w' : World} (h : Lv q N w w') (i : Nat) (v : Value) : Lv q N w (w'.setCell ⟨q, i, none⟩ v) :=
 ⟨h.os, h.tape, h.output, by have := h.size; simpa [World.setCell] using this, fun k hk hq => (Below.heap_setCell _ _ _ _ hq).trans (h.blk k hk hq)⟩
theorem Lv.mono {q N M : Nat} {w w' : World} (h : Lv q N w w') (hm : M <= N) : Lv q M w w' := ⟨h.os, h.tape, h.output, h.size, fun k hk hq => h.blk k (by omega) hq⟩
theorem tro_set {w : World} {g c : Nat} {x : TV} (T : TV) (h : TRo w (.slice (some ⟨g, 0, none⟩) 1 c) [x]) : TRo (set4 w g 0 T) (.slice (some ⟨g, 0, none⟩) 1 c) [T] := by
 rcases h.2 with ⟨e, _⟩ | ⟨g', cap, cur, e, h1, h2, h3, h4, h5, h6⟩
 ·cases e
 ·cases e
  have b0 := heap_setCell_same w g 0 _ _ (.int .i64 T.prod) h2
  have b1 := heap_setCell_same _ g 1 _ _ (.int .i64 T.kind) b0
  have b2 := heap_setCell_same _ g 2 _ _ (.string T.tx) b1
  have b3 := heap_setCell_same _ g 3 _ _ (.slice T.ka T.kids.length T.kc) b2
  refine ⟨rfl, .inr ⟨g, c, _, rfl, h1, b3, h3, h4, by simpa using h5, ?_⟩⟩
  have hl : 4 <= cur.toList.length := by rw [Array.length_toList, h5]; simp at h3; omega
  obtain ⟨l, hc⟩ : ∃ l, cur.toList = l := ⟨_, rfl⟩
  rw [hc] at hl
  simp only [Array.toList_setIfInBounds, hc]
  match l, hl with
  | a :: b :: d :: e :: r, _ => simp [trCells]
theorem ro_one {w w' : World} {a : Option Addr} {n c : Nat} {x : TV} (h : TRo w' (.slice a n c) ([] ++ [x])) (hg : Grew w w' (.slice none 0 0) (.slice a n c)) : ∃ g, a = some ⟨g, 0, none⟩ /\ n = 1 /\ w.heap.size <= g /\ TRo w' (.slice (some ⟨g, 0, none⟩) 1 c) [x] := by
 obtain ⟨h1, h2⟩ := ro_fresh h hg
 obtain ⟨_, b, rfl, hb⟩ := h2 (by simp)
 simp only [List.length_singleton] at h1
 subst h1
 exact ⟨b, rfl, rfl, hb, h⟩
theorem tro_bx {w : World} {g c : Nat} {x : TV} (h : TRo w (.slice (some ⟨g, 0, none⟩) 1 c) [x]) : TBx w g 0 x /\ (∃ cs, w.heap[g]? = some (.cells cs 31)) := by
 obtain ⟨r1, r2⟩ := row_krow (l := [x]) h (by simp) rfl (Nat.le_refl _)
 obtain ⟨b, off, e, hb⟩ := krow_kid r1 (n := 0) (by simp)
 simp only [Option.some.injEq, Addr.mk.injEq, and_true] at e
 obtain ⟨rfl, rfl⟩ := e
 exact ⟨hb, r2⟩
structure Gv2 (q N : Nat) (V : Nat -> Value) (w0 : World) (b5 : Nat) (T1 : TV) (w : World) : Prop where
 lv : Lv q N w0 w
 hq : w.heap[q]? = some (.cells (hArr V) 43 (0, 0))
 qn : q < N
 rz : w.heap[N + 1]? = some zTree
 bx : w.heap[b5]? = some (tBox T1)
 b5 : N + 1 < b5
 ow : OwT (N + 2) w T1
theorem Gv2.later {q N : Nat} {V : Nat -> Value} {w0 : World} {b5 : Nat} {T1 : TV} {w w' : World} (h : Gv2 q N V w0 b5 T1 w) (hb : Below w.heap.size w w') : Gv2 q N V w0 b5 T1 w' := by
 have h1 := lt_of_block h.rz
 exact ⟨h.lv.trans (Lv.ofBelow (hb.mono (by omega))), (hb.block _ (lt_of_block h.hq)).trans h.hq, h.qn, (hb.block _ (lt_of_block h.rz)).trans h.rz, (hb.block _ (lt_of_block h.bx)).trans h.bx, h.b5, h.ow.later hb⟩
theorem Gv2.cell {q N : Nat} {V : Nat -> Value} {w0 : World} {b5 : Nat} {T1 : TV} {w : World} (h : Gv2 q N V w0 b5 T1 w) {i : Nat} (hi : i < 22) : w.cell? ⟨q, i, none⟩ = some (V i) /\ w.frozen? ⟨q, i, none⟩ = false :=
 ⟨by rw [cellq_any h.hq]; exact hArr_get V hi, by simp [World.frozen?, h.hq]⟩
theorem Gv2.set {q N : Nat} {V : Nat -> Value} {w0 : World} {b5 : Nat} {T1 : TV} {w : World} (h : Gv2 q N V w0 b5 T1 w) (i : Nat) (v : Value) : Gv2 q N (updV V i v) w0 b5 T1 (w.setCell ⟨q, i, none⟩ v) := by
 have ne : ∀ k, N <= k -> (w.setCell ⟨q, i, none⟩ v).heap[k]? = w.heap[k]? := fun k hk => Below.heap_setCell _ _ _ _ (show k ≠ q by have := h.qn; omega)
 have hb := h.b5
 exact ⟨h.lv.set i v, by rw [heap_set h.hq, hArr_set], h.qn, (ne _ (by omega)).trans h.rz, (ne _ (by omega)).trans h.bx, h.b5, h.ow.kept (fun a ha => ne _ (by have := (h.ow.ty a ha).1; omega)) (by simp [World.setCell])⟩
theorem wpAnyX_takeP {P : Program} {ops : Array Oper} {Q : Exit -> Act -> World -> Prop} {md : Region.Mode} {m i : Nat} {oi : Oper} {v : Value} {S0 S1 : World -> Prop} {fuel : Nat} {listed : Array Bool} {a : Act} {w : World} (hi' : ops.toList[i]? = some oi)
  (hs : Region.noSelect ops = true) (him : i ≠ m) (hf : Region.free md ops listed i = true) (hr : (Region.ready md ops listed).contains i = true)
  (hQ : ∀ c a w, Q (.panic c) (a.put oi.dst v) w -> Q (.panic c) a w) (hy : YieldsIf P ops (fun _ => True) oi v a) (hS : SX m S0 S1 listed w)
  (h : wpAnyX P md ops Q (SX m S0 S1) fuel (listed.setIfInBounds i true) (a.put oi.dst v) w) : wpAnyX P md ops Q (SX m S0 S1) (fuel + 1) listed a w :=
 have hi : ops[i]? = some oi := by rw [<- Array.getElem?_toList]; exact hi'
 wpAnyX_first (Cl := fun _ => True) (T := fun _ => True) hi (Region.noSelect_spec hs) hQ (fun _ _ _ _ => trivial) (fun _ _ _ _ _ => trivial)
  (fun L w => by
   have e : (L.setIfInBounds i true).getD m false = L.getD m false := getD_set_ne false him
   unfold SX
   rw [e]) fuel listed a w (Region.free_spec hi hf) (by simpa using hr) trivial hy hS h
structure Gv3 (q N : Nat) (V : Nat -> Value) (w0 : World) (b5 : Nat) (T1 : TV) (i : Nat) (T : TV) (w : World) : Prop where
 ex : ∃ g c, Gv2 q N (updV V i (.slice (some ⟨g, 0, none⟩) 1 c)) w0 b5 T1 w /\ TRo w (.slice (some ⟨g, 0, none⟩) 1 c) [T] /\ N <= g /\ g ≠ b5 /\ g ≠ N + 1
theorem gv3_a {q N : Nat} {V : Nat -> Value} {w0 : World} {b5 : Nat} {T1 : TV} {i : Nat} {w : World} {g c : Nat} {x : TV} (T : TV) (h : Gv2 q N V w0 b5 T1 w) (hr : TRo w (.slice (some ⟨g, 0, none⟩) 1 c) [x]) (hg : ∀ k, k = b5 ∨ k = N + 1 ∨ k ∈ (adsL (kidsA T1)).map (·.1) -> k ≠ g) (hN : N <= g) : Gv3 q N V w0 b5 T1 i T ((set4 w g 0 T).setCell ⟨q, i, none⟩ (.slice (some ⟨g, 0, none⟩) 1 c)) := by
 have hqg : q ≠ g := by have := h.qn; omega
 have h2 : Gv2 q N V w0 b5 T1 (set4 w g 0 T) := ⟨h.lv.trans ⟨rfl, rfl, rfl, by rw [set4_size]; exact Nat.le_refl _, fun k hk _ => set4_other _ _ _ _ _ (by omega)⟩, (set4_other _ _ _ _ _ hqg).trans h.hq, h.qn, (set4_other _ _ _ _ _ (hg _ (.inr (.inl rfl)))).trans h.rz, (set4_other _ _ _ _ _ (hg _ (.inl rfl))).trans h.bx, h.b5, h.ow.kept (fun a ha => set4_other _ _ _ _ _ (hg _ (.inr (.inr (List.mem_map.2 ⟨a, ha, rfl⟩))))) (by rw [set4_size]; exact Nat.le_refl _)⟩
 refine ⟨g, c, h2.set i _, (tro_set T hr).kept fun j hj => ?_, hN, fun e => hg _ (.inl rfl) e.symm, fun e => hg _ (.inr (.inl rfl)) e.symm⟩
 simp [Value.ownBlock] at hj
 subst hj
 exact Below.heap_setCell _ _ _ _ (Ne.symm hqg)
theorem set_swap (w : World) {q g : Nat} (hqg : q ≠ g) (i : Nat) (v : Value) (T : TV) : set4 (w.setCell ⟨q, i, none⟩ v) g 0 T = (set4 w g 0 T).setCell ⟨q, i, none⟩ v := by
 have c : ∀ (w : World) (o : Nat) (u : Value), (w.setCell ⟨q, i, none⟩ v).setCell ⟨g, o, none⟩ u = (w.setCell ⟨g, o, none⟩ u).setCell ⟨q, i, none⟩ v := fun w o u => by
  simp only [World.setCell]
  congr 1
  apply Array.ext_getElem?
  intro k
  simp only [Array.getElem?_modify]
  by_cases h1 : g = k
  ·subst h1
   simp [hqg]
  ·by_cases h2 : q = k
   ·subst h2
    simp [h1]
   ·simp [h1, h2]
 unfold set4
 rw [c, c, c, c]
structure Gv4 (q N : Nat) (V : Nat -> Value) (w0 : World) (b5 : Nat) (T1 : TV) (g1 c1 : Nat) (w : World) : Prop where
 ex : ∃ T2, Gv3 q N V w0 b5 T1 21 T2 w /\ samV T1 T2 /\ TAt w T2 /\ TRo w (.slice (some ⟨g1, 0, none⟩) 1 c1) [T1] /\ ∀ a ∈ adsL (kidsA T2), N + 1 < a.1
theorem gv4_a {q N : Nat} {V : Nat -> Value} {w0 : World} {b5 : Nat} {T1 T2 : TV} {w : World} {g c g1 c1 M : Nat} {x : TV} (h : Gv2 q N V w0 b5 T1 w) (hr : TRo w (.slice (some ⟨g, 0, none⟩) 1 c) [x]) (hg : ∀ k, k = b5 ∨ k = N + 1 ∨ k ∈ (adsL (kidsA T1)).map (·.1) -> k ≠ g) (hN : N <= g) (hs : samV T1 T2) (ho : OwT M w T2) (h2 : ∀ a ∈ adsL (kidsA T2), a.1 ≠ g) (h2q : ∀ a ∈ adsL (kidsA T2), a.1 ≠ q) (hr1 : TRo w (.slice (some ⟨g1, 0, none⟩) 1 c1) [T1]) (hg1 : g1 ≠ g) (hq1 : g1 ≠ q) (hM : N + 1 < M) : Gv4 q N V w0 b5 T1 g1 c1 ((set4 w g 0 T2).setCell ⟨q, 21, none⟩ (.slice (some ⟨g, 0, none⟩) 1 c)) := by
 have e : ∀ k, k ≠ g -> k ≠ q -> ((set4 w g 0 T2).setCell ⟨q, 21, none⟩ (.slice (some ⟨g, 0, none⟩) 1 c)).heap[k]? = w.heap[k]? := fun k h1 h2 => (Below.heap_setCell _ _ _ _ h2).trans (set4_other _ _ _ _ _ h1)
 have hs1 : w.heap.size <= ((set4 w g 0 T2).setCell ⟨q, 21, none⟩ (.slice (some ⟨g, 0, none⟩) 1 c)).heap.size := by simp [World.setCell]
 refine ⟨T2, gv3_a T2 h hr hg hN, hs, (ho.kept (fun a ha => e _ (h2 a ha) (h2q a ha)) hs1).ta, hr1.kept fun j hj => ?_, fun a ha => Nat.lt_of_lt_of_le hM (ho.ty a ha).1⟩
 simp [Value.ownBlock] at hj
 subst hj
 exact e _ hg1 hq1
theorem run_copyT1 {o : Oper} {a : Act} {t0 : TypeId} {v0 : Value} {x0 : Operand} (hop : o.op = Op.call { callee := Callee.value (Operand.func 16), args := #[x0], argTypes := #[t0] }) (h0 : a.eval x0 = v0) (w : World) : (execOp a.eval o).run Tryz.prog w = .ok (.enter 16 #[v0]) w := by
 have hf : a.eval (Operand.func 16) = .func (.func 16) #[] #[] := rfl
 simp [execOp, hop, resolve, invoke, h0, hf, Deferred.ofValue]
set_option linter.unusedSimpArgs false in
set_option maxRecDepth 100000 in
set_option maxHeartbeats 8000000 in
theorem tree_W (q : Nat) (V : Nat -> Value) (w : World) (hq : w.heap[q]? = some (.cells (hArr V) 43 (0, 0))) (h20 : V 20 = hNil) (h21 : V 21 = hNil) (t : TV) (ht : TAt w t) (hsz : szT t <= 100000000) : Calls Tryz.prog 5 #[.pointer (some ⟨q, 0, none⟩), t.val] w fun e w' => ∃ T1 T2 g1 g2 c1 c2, e = .returned T1.val /\ Lv q w.heap.size w w' /\ w'.heap[q]? = some (.cells (hArr (updV (updV V 20 (.slice (some ⟨g1, 0, none⟩) 1 c1)) 21 (.slice (some ⟨g2, 0, none⟩) 1 c2))) 43 (0, 0)) /\ TRo w' (.slice (some ⟨g1, 0, none⟩) 1 c1) [T1] /\ TRo w' (.slice (some ⟨g2, 0, none⟩) 1 c2) [T2] /\ TAt w' T1 /\ TAt w' T2 /\ samV t T1 /\ samV T1 T2 /\ w.heap.size <= g1 /\ w.heap.size <= g2 /\ (∀ a ∈ adsL (kidsA T1), w.heap.size <= a.1) /\ ∀ a ∈ adsL (kidsA T2), w.heap.size <= a.1 := by
 have hqn := lt_of_block hq
 obtain ⟨w1, hw1⟩ : ∃ w1, (w.alloc (tBox t)).alloc zTree = w1 := ⟨_, rfl⟩
 obtain ⟨h1, h2, h3⟩ := two_allocT w (tBox t) zTree
 rw [hw1] at h1 h2 h3
 have X1 : Hid (TBx w1 w.heap.size 0 t /\ Below w.heap.size w w1) := ⟨tb_tbxC h2, h1⟩
 have C1 : Hid (Calls Tryz.prog 16 #[t.val] w1 fun e w' => ∃ T1, e = .returned T1.val /\ samV t T1 /\ Gv2 q w.heap.size V w w'.heap.size T1 (w'.alloc (tBox T1))) := by
  refine (copyTree_W t w1 (ht.later h1) hsz).mono fun e w' ⟨T1, e1, e2, e3, e4⟩ => ⟨T1, e1, e3, ?_⟩
  have hb : Below w1.heap.size w1 (w'.alloc (tBox T1)) := e2.trans ((below_alloc _ _).mono e2.size)
  have hl := lt_of_block h3
  refine ⟨Lv.ofBelow (h1.trans (hb.mono h1.size)), ?_, hqn, (hb.block _ hl).trans h3, heap_alloc_new _ _, ?_, (e4.mono (show w.heap.size + 2 <= w1.heap.size by omega)).later (below_alloc _ _)⟩
  ·rw [(h1.trans (hb.mono h1.size)).block q hqn]; exact hq
  ·have := e2.size
   omega
 have V20 : Hid (V 20 = hNil /\ V 21 = hNil) := ⟨h20, h21⟩
 have SZ : Hid (szT t <= 100000000) := hsz
 clear hq h20 h21 ht hsz hqn h1 h2 h3
 go_enter Tryz.func5, Tryz.ntmps5
 go_upto_region 1 with fail
 refine wp_world (fun w' => w' = w1) hw1 fun wx hwx => ?_
 subst hwx
 clear hw1
 obtain ⟨c0, c1, c2, c3⟩ : wx.cell? ⟨w.heap.size, 0, none⟩ = some (.int .i64 t.prod) /\ wx.cell? ⟨w.heap.size, 1, none⟩ = some (.int .i64 t.kind) /\ wx.cell? ⟨w.heap.size, 2, none⟩ = some (.string t.tx) /\ wx.cell? ⟨w.heap.size, 3, none⟩ = some (.slice t.ka t.kids.length t.kc) := ⟨X1.out.1.c0, by have := X1.out.1.c1; rwa [Nat.zero_add] at this, by have := X1.out.1.c2; rwa [Nat.zero_add] at this, by have := X1.out.1.c3; rwa [Nat.zero_add] at this⟩
 go_upto_region 2 with (go_at_call 16; refine C1.out.mono ?_; rintro e w2 ⟨T1, rfl, s2, g2⟩; have H2 : Hid (samV t T1 /\ Gv2 q w.heap.size V w w2.heap.size T1 (w2.alloc (tBox T1))) := ⟨s2, g2⟩; clear s2 g2 c0 c1 c2 c3)
 clear C1 X1
 generalize w2.alloc (tBox T1) = W2 at *
 generalize w2.heap.size = b5 at *
 go_cut [5] (fun s wx => s = .pointer (some ⟨b5, 0, none⟩) /\ Gv3 q w.heap.size V w b5 T1 20 T1 wx)
 case first =>
  obtain ⟨wd, hwd⟩ : ∃ wd : World, wd = W2.drew := ⟨_, rfl⟩
  have HD : Hid (Gv2 q w.heap.size V w b5 T1 wd) := by rw [hwd]; exact H2.out.2.later (Below.refl _ _).drew
  have KEEP : Hid (∀ w', Below wd.heap.size wd w' -> w'.cell? ⟨q, 20, none⟩ = some hNil /\ TBx w' b5 0 T1) := fun w' hb => by
   have h := HD.out.later hb
   exact ⟨by rw [(h.cell (i := 20) (by omega)).1, V20.out.1], tb_tbxC h.bx⟩
  refine wp_region_x (S := SX 7 (fun _ => True) (fun w' => w'.cell? ⟨q, 20, none⟩ = some hNil /\ TBx w' b5 0 T1)) (by kernel_rfl) ?_
  rw [<- hwd]
  clear hwd
  refine wpAnyX_take (m := 7) (i := 0) (v := ?_) rfl (by kernel_rfl) (by kernel_rfl) (by decide) (by decide +kernel) (by decide +kernel) (fun _ _ _ h => h) (by kernel_rfl) (Or.inl ⟨by rfl, ?_⟩) (SX.both trivial (KEEP.out _ (Below.refl _ _))) ?_
  rotate_left
  ·(intro w hSw; have z0 := hSw.2.1; have y0 := hSw.2.2.c0; have y1 := hSw.2.2.c1; have y2 := hSw.2.2.c2; have y3 := hSw.2.2.c3; simp only [Nat.zero_add] at y1 y2 y3; clear hSw; go_simp; try (with_reducible rfl))
  (try simp only [Act.put, List.setIfInBounds_toArray, List.set_cons_zero, List.set_cons_succ])
  refine wpAnyX_take (m := 7) (i := 1) (v := ?_) rfl (by kernel_rfl) (by kernel_rfl) (by decide) (by decide +kernel) (by decide +kernel) (fun _ _ _ h => h) (by kernel_rfl) (Or.inl ⟨by rfl, ?_⟩) (SX.both trivial (KEEP.out _ (Below.refl _ _))) ?_
  rotate_left
  ·(intro w hSw; have z0 := hSw.2.1; have y0 := hSw.2.2.c0; have y1 := hSw.2.2.c1; have y2 := hSw.2.2.c2; have y3 := hSw.2.2.c3; simp only [Nat.zero_add] at y1 y2 y3; clear hSw; go_simp; try (with_reducible rfl))
  (try simp only [Act.put, List.setIfInBounds_toArray, List.set_cons_zero, List.set_cons_succ])
  refine wpAnyX_take (m := 7) (i := 2) (v := ?_) rfl (by kernel_rfl) (by kernel_rfl) (by decide) (by decide +kernel) (by decide +kernel) (fun _ _ _ h => h) (by kernel_rfl) (Or.inl ⟨by rfl, ?_⟩) (SX.both trivial (KEEP.out _ (Below.refl _ _))) ?_
  rotate_left
  ·(intro w hSw; have z0 := hSw.2.1; have y0 := hSw.2.2.c0; have y1 := hSw.2.2.c1; have y2 := hSw.2.2.c2; have y3 := hSw.2.2.c3; simp only [Nat.zero_add] at y1 y2 y3; clear hSw; go_simp; try (with_reducible rfl))
  (try simp only [Act.put, List.setIfInBounds_toArray, List.set_cons_zero, List.set_cons_succ])
  refine wpAnyX_take (m := 7) (i := 3) (v := ?_) rfl (by kernel_rfl) (by kernel_rfl) (by decide) (by decide +kernel) (by decide +kernel) (fun _ _ _ h => h) (by kernel_rfl) (Or.inl ⟨by rfl, ?_⟩) (SX.both trivial (KEEP.out _ (Below.refl _ _))) ?_
  rotate_left
  ·(intro w hSw; have z0 := hSw.2.1; have y0 := hSw.2.2.c0; have y1 := hSw.2.2.c1; have y2 := hSw.2.2.c2; have y3 := hSw.2.2.c3; simp only [Nat.zero_add] at y1 y2 y3; clear hSw; go_simp; try (with_reducible rfl))
  (try simp only [Act.put, List.setIfInBounds_toArray, List.set_cons_zero, List.set_cons_succ])
  refine wpAnyX_take (m := 7) (i := 4) (v := ?_) rfl (by kernel_rfl) (by kernel_rfl) (by decide) (by decide +kernel) (by decide +kernel) (fun _ _ _ h => h) (by kernel_rfl) (Or.inl ⟨by rfl, ?_⟩) (SX.both trivial (KEEP.out _ (Below.refl _ _))) ?_
  rotate_left
  ·(intro w hSw; have z0 := hSw.2.1; have y0 := hSw.2.2.c0; have y1 := hSw.2.2.c1; have y2 := hSw.2.2.c2; have y3 := hSw.2.2.c3; simp only [Nat.zero_add] at y1 y2 y3; clear hSw; go_simp; try (with_reducible rfl))
  (try simp only [Act.put, List.setIfInBounds_toArray, List.set_cons_zero, List.set_cons_succ])
  refine wpAnyX_take (m := 7) (i := 5) (v := ?_) rfl (by kernel_rfl) (by kernel_rfl) (by decide) (by decide +kernel) (by decide +kernel) (fun _ _ _ h => h) (by kernel_rfl) (Or.inl ⟨by rfl, ?_⟩) (SX.both trivial (KEEP.out _ (Below.refl _ _))) ?_
  rotate_left
  ·(intro w hSw; have z0 := hSw.2.1; have y0 := hSw.2.2.c0; have y1 := hSw.2.2.c1; have y2 := hSw.2.2.c2; have y3 := hSw.2.2.c3; simp only [Nat.zero_add] at y1 y2 y3; clear hSw; go_simp; try (with_reducible rfl))
  (try simp only [Act.put, List.setIfInBounds_toArray, List.set_cons_zero, List.set_cons_succ])
  refine wpAnyX_one (j := 6) (by decide +kernel) rfl (fun K' hK => ?_)
  go_simp
  have BA : Hid (Below wd.heap.size wd (wd.alloc zTree)) := below_alloc _ _
  refine hK.out _ _ (SX.both trivial (KEEP.out _ BA.out)) ?_
  clear hK K'
  (try simp only [Act.put, List.setIfInBounds_toArray, List.set_cons_zero, List.set_cons_succ])
  have NX : Hid (∀ j u, (trCells TV.none)[j]? = some u -> (wd.alloc zTree).cell? ⟨wd.heap.size, j, none⟩ = some u) := fun j u hu => by
   rw [cellq_any (heap_alloc_new wd zTree), <- hu]
   simp [trCells, TV.none, TV.prod, TV.kind, TV.tx, TV.ka, TV.kc, TV.kids, TV.pay, TV.mk]
  refine wpAnyX_one (j := 7) (by decide +kernel) rfl (fun K' hK => ?_)
  refine step_ro_append rkTree rfl (.tmp 11) (.tmp 14) rfl (.slice none 0 0) [] rfl (RO.nil _) wd.heap.size 1 TV.none rfl NX.out (by simp) ?_
  intro a7 n7 c7 w7 ho7 hg7
  obtain ⟨gr, rfl, rfl, hgr, hro⟩ := ro_one ho7 hg7
  have B7 : Hid (Below wd.heap.size wd w7) := BA.out.trans ((grew_nil hg7).mono BA.out.size)
  have R7 : Hid (TRo w7 (.slice (some ⟨gr, 0, none⟩) 1 c7) [TV.none] /\ wd.heap.size <= gr) := ⟨hro, Nat.le_trans BA.out.size hgr⟩
  clear ho7 hg7 hgr hro NX BA
  refine hK.out _ _ (SX.both trivial (KEEP.out _ B7.out)) ?_
  clear hK K'
  (try simp only [Act.put, List.setIfInBounds_toArray, List.set_cons_zero, List.set_cons_succ])
  refine wpAnyX_takeP (m := 7) (i := 8) (v := ?_) rfl (by kernel_rfl) (by decide) (by decide +kernel) (by decide +kernel) (fun _ _ _ h => h) (Or.inl ⟨by rfl, ?_⟩) (SX.both trivial (KEEP.out _ B7.out)) ?_
  rotate_left
  ·(intro w hSw; clear hSw; go_simp; try (with_reducible rfl))
  (try simp only [Act.put, List.setIfInBounds_toArray, List.set_cons_zero, List.set_cons_succ])
  refine wpAnyX_takeP (m := 7) (i := 10) (v := ?_) rfl (by kernel_rfl) (by decide) (by decide +kernel) (by decide +kernel) (fun _ _ _ h => h) (Or.inl ⟨by rfl, ?_⟩) (SX.both trivial (KEEP.out _ B7.out)) ?_
  rotate_left
  ·(intro w hSw; clear hSw; go_simp; try (with_reducible rfl))
  (try simp only [Act.put, List.setIfInBounds_toArray, List.set_cons_zero, List.set_cons_succ])
  refine wpAnyX_takeP (m := 7) (i := 11) (v := ?_) rfl (by kernel_rfl) (by decide) (by decide +kernel) (by decide +kernel) (fun _ _ _ h => h) (Or.inl ⟨by rfl, ?_⟩) (SX.both trivial (KEEP.out _ B7.out)) ?_
  rotate_left
  ·(intro w hSw; clear hSw; go_simp; try (with_reducible rfl))
  (try simp only [Act.put, List.setIfInBounds_toArray, List.set_cons_zero, List.set_cons_succ])
  have G7 : Hid (Gv2 q w.heap.size V w b5 T1 w7) := HD.out.later B7.out
  have FIN : Hid (Gv3 q w.heap.size V w b5 T1 20 T1 ((set4 w7 gr 0 T1).setCell ⟨q, 20, none⟩ (.slice (some ⟨gr, 0, none⟩) 1 c7))) := by
   refine gv3_a T1 G7.out R7.out.1 (fun k hk => ?_) ?_
   ·have h1 := lt_of_block HD.out.bx
    have h2 := lt_of_block HD.out.rz
    have h3 := R7.out.2
    rcases hk with rfl | rfl | hk
    ·omega
    ·omega
    ·obtain ⟨a, ha, rfl⟩ := List.mem_map.1 hk
     have := kids_lt HD.out.ow.ta ha
     omega
   ·have h2 := lt_of_block HD.out.rz
    have h3 := R7.out.2
    omega
  have hqg : q ≠ gr := by
   have h1 := lt_of_block HD.out.hq
   have h3 := R7.out.2
   omega
  obtain ⟨tb7, cs7, ty7⟩ := tro_bx R7.out.1
  have th7 : w7.there gr 0 4 := tbx_there tb7 ty7
  obtain ⟨q20, fr20⟩ := G7.out.cell (i := 20) (by omega)
  rw [V20.out.1] at q20
  have s20 : (set4 w7 gr 0 T1).cell? ⟨q, 20, none⟩ = some (.slice none 0 0) /\ (set4 w7 gr 0 T1).frozen? ⟨q, 20, none⟩ = false := by
   have e := set4_other w7 gr 0 T1 q hqg
   refine ⟨(World.cell?_of_block e).trans q20, ?_⟩
   have := fr20
   simp only [World.frozen?] at this ⊢
   rw [e]; exact this
  have th8 : (w7.setCell ⟨q, 20, none⟩ (.slice (some ⟨gr, 0, none⟩) 1 c7)).there gr 0 4 := fun j hj => by
   obtain ⟨t1, t2⟩ := th7 j hj
   have e : (w7.setCell ⟨q, 20, none⟩ (.slice (some ⟨gr, 0, none⟩) 1 c7)).heap[gr]? = w7.heap[gr]? := Below.heap_setCell _ _ _ _ (Ne.symm hqg)
   refine ⟨by rw [World.cell?_of_block e]; exact t1, ?_⟩
   simp only [World.frozen?] at t2 ⊢
   rw [e]; exact t2
  have SW : Hid (Gv3 q w.heap.size V w b5 T1 20 T1 (set4 (w7.setCell ⟨q, 20, none⟩ (.slice (some ⟨gr, 0, none⟩) 1 c7)) gr 0 T1)) := by
   show Gv3 _ _ _ _ _ _ _ _ _
   rw [set_swap _ hqg]; exact FIN.out
  refine pickT (l := [9, 12]) (by decide +kernel) (by simp) (fun j hj => ?_)
  simp only [List.mem_cons, List.not_mem_nil, or_false] at hj
  rcases hj with hj | hj <;> rw [hj]
  ·refine ⟨_, rfl, fun K' hK => ?_⟩
   refine step_storeO rfl 31 (.tmp 16) (.tmp 12) rfl gr 0 #[.int .i64 T1.prod, .int .i64 T1.kind, .string T1.tx, .slice T1.ka T1.kids.length T1.kc] rfl rfl th7 (by kernel_rfl) (by kernel_rfl) ?_
   have e7 : w7.setCells gr 0 (#[Value.int .i64 T1.prod, .int .i64 T1.kind, .string T1.tx, .slice T1.ka T1.kids.length T1.kc] : Array Value).toList = set4 w7 gr 0 T1 := rfl
   rw [e7]
   clear e7
   refine hK.out _ _ (SX.one trivial (by kernel_rfl)) ?_
   clear hK K' SW
   (try simp only [Act.put, List.setIfInBounds_toArray, List.set_cons_zero, List.set_cons_succ])
   obtain ⟨s1, s2⟩ := s20
   generalize set4 w7 gr 0 T1 = w8 at *
   refine wpAnyX_one (j := 12) (by decide +kernel) rfl (fun K' hK => ?_)
   go_simp
   refine hK.out _ _ (SX.one trivial (by kernel_rfl)) ?_
   clear hK K'
   (try simp only [Act.put, List.setIfInBounds_toArray, List.set_cons_zero, List.set_cons_succ])
   refine wpAnyX_done (by decide +kernel) ?_
   go_wp2_with fail
   go_meet
   exact ⟨rfl, FIN.out⟩
  ·refine ⟨_, rfl, fun K' hK => ?_⟩
   go_simp
   refine hK.out _ _ (SX.one trivial (by kernel_rfl)) ?_
   clear hK K' FIN s20
   (try simp only [Act.put, List.setIfInBounds_toArray, List.set_cons_zero, List.set_cons_succ])
   refine wpAnyX_one (j := 9) (by decide +kernel) rfl (fun K' hK => ?_)
   refine step_storeO rfl 31 (.tmp 16) (.tmp 12) rfl gr 0 #[.int .i64 T1.prod, .int .i64 T1.kind, .string T1.tx, .slice T1.ka T1.kids.length T1.kc] rfl rfl th8 (by kernel_rfl) (by kernel_rfl) ?_
   refine hK.out _ _ (SX.one trivial (by kernel_rfl)) ?_
   clear hK K'
   (try simp only [Act.put, List.setIfInBounds_toArray, List.set_cons_zero, List.set_cons_succ])
   refine wpAnyX_done (by decide +kernel) ?_
   go_wp2_with fail
   go_meet
   exact ⟨rfl, SW.out⟩
 case rest =>
  obtain ⟨e5, ⟨g1, c1, G1, R1, hN1, hn1, hn2⟩⟩ := hcut
  subst e5
  have HC : Hid (Gv2 q w.heap.size (updV V 20 (.slice (some ⟨g1, 0, none⟩) 1 c1)) w b5 T1 wc /\ TRo wc (.slice (some ⟨g1, 0, none⟩) 1 c1) [T1] /\ w.heap.size <= g1 /\ g1 ≠ w.heap.size + 1) := ⟨G1, R1, hN1, hn2⟩
  have ST : Hid (samV t T1) := H2.out.1
  have V21 : Hid ((updV V 20 (.slice (some ⟨g1, 0, none⟩) 1 c1)) 21 = hNil) := by
   show updV _ _ _ _ = _
   unfold updV
   rw [if_neg (by decide)]
   exact V20.out.2
  clear G1 R1 hN1 hn1 hn2 H2
  go_upto_region 3 with fail
  go_cut [5] (fun s wx => s = .pointer (some ⟨b5, 0, none⟩) /\ Gv4 q w.heap.size (updV V 20 (.slice (some ⟨g1, 0, none⟩) 1 c1)) w b5 T1 g1 c1 wx)
  case first =>
   obtain ⟨wd, hwd⟩ : ∃ wd : World, wd = wc.drew := ⟨_, rfl⟩
   have HD : Hid (Gv2 q w.heap.size (updV V 20 (.slice (some ⟨g1, 0, none⟩) 1 c1)) w b5 T1 wd /\ TRo wd (.slice (some ⟨g1, 0, none⟩) 1 c1) [T1]) := by rw [hwd]; exact ⟨HC.out.1.later (Below.refl _ _).drew, HC.out.2.1.later (Below.refl _ _).drew⟩
   have KEEP : Hid (∀ w', Below wd.heap.size wd w' -> w'.cell? ⟨q, 21, none⟩ = some hNil /\ TBx w' b5 0 T1) := fun w' hb => by
    have h := HD.out.1.later hb
    exact ⟨by rw [(h.cell (i := 21) (by omega)).1, V21.out], tb_tbxC h.bx⟩
   refine wp_region_x (S := SX 8 (fun _ => True) (fun w' => w'.cell? ⟨q, 21, none⟩ = some hNil /\ TBx w' b5 0 T1)) (by kernel_rfl) ?_
   rw [<- hwd]
   clear hwd
   refine wpAnyX_take (m := 8) (i := 0) (v := ?_) rfl (by kernel_rfl) (by kernel_rfl) (by decide) (by decide +kernel) (by decide +kernel) (fun _ _ _ h => h) (by kernel_rfl) (Or.inl ⟨by rfl, ?_⟩) (SX.both trivial (KEEP.out _ (Below.refl _ _))) ?_
   rotate_left
   ·(intro w hSw; have z0 := hSw.2.1; have y0 := hSw.2.2.c0; have y1 := hSw.2.2.c1; have y2 := hSw.2.2.c2; have y3 := hSw.2.2.c3; simp only [Nat.zero_add] at y1 y2 y3; clear hSw; go_simp; try (with_reducible rfl))
   (try simp only [Act.put, List.setIfInBounds_toArray, List.set_cons_zero, List.set_cons_succ])
   refine wpAnyX_take (m := 8) (i := 1) (v := ?_) rfl (by kernel_rfl) (by kernel_rfl) (by decide) (by decide +kernel) (by decide +kernel) (fun _ _ _ h => h) (by kernel_rfl) (Or.inl ⟨by rfl, ?_⟩) (SX.both trivial (KEEP.out _ (Below.refl _ _))) ?_
   rotate_left
   ·(intro w hSw; have z0 := hSw.2.1; have y0 := hSw.2.2.c0; have y1 := hSw.2.2.c1; have y2 := hSw.2.2.c2; have y3 := hSw.2.2.c3; simp only [Nat.zero_add] at y1 y2 y3; clear hSw; go_simp; try (with_reducible rfl))
   (try simp only [Act.put, List.setIfInBounds_toArray, List.set_cons_zero, List.set_cons_succ])
   refine wpAnyX_take (m := 8) (i := 2) (v := ?_) rfl (by kernel_rfl) (by kernel_rfl) (by decide) (by decide +kernel) (by decide +kernel) (fun _ _ _ h => h) (by kernel_rfl) (Or.inl ⟨by rfl, ?_⟩) (SX.both trivial (KEEP.out _ (Below.refl _ _))) ?_
   rotate_left
   ·(intro w hSw; have z0 := hSw.2.1; have y0 := hSw.2.2.c0; have y1 := hSw.2.2.c1; have y2 := hSw.2.2.c2; have y3 := hSw.2.2.c3; simp only [Nat.zero_add] at y1 y2 y3; clear hSw; go_simp; try (with_reducible rfl))
   (try simp only [Act.put, List.setIfInBounds_toArray, List.set_cons_zero, List.set_cons_succ])
   refine wpAnyX_take (m := 8) (i := 3) (v := ?_) rfl (by kernel_rfl) (by kernel_rfl) (by decide) (by decide +kernel) (by decide +kernel) (fun _ _ _ h => h) (by kernel_rfl) (Or.inl ⟨by rfl, ?_⟩) (SX.both trivial (KEEP.out _ (Below.refl _ _))) ?_
   rotate_left
   ·(intro w hSw; have z0 := hSw.2.1; have y0 := hSw.2.2.c0; have y1 := hSw.2.2.c1; have y2 := hSw.2.2.c2; have y3 := hSw.2.2.c3; simp only [Nat.zero_add] at y1 y2 y3; clear hSw; go_simp; try (with_reducible rfl))
   (try simp only [Act.put, List.setIfInBounds_toArray, List.set_cons_zero, List.set_cons_succ])
   refine wpAnyX_take (m := 8) (i := 4) (v := ?_) rfl (by kernel_rfl) (by kernel_rfl) (by decide) (by decide +kernel) (by decide +kernel) (fun _ _ _ h => h) (by kernel_rfl) (Or.inl ⟨by rfl, ?_⟩) (SX.both trivial (KEEP.out _ (Below.refl _ _))) ?_
   rotate_left
   ·(intro w hSw; have z0 := hSw.2.1; have y0 := hSw.2.2.c0; have y1 := hSw.2.2.c1; have y2 := hSw.2.2.c2; have y3 := hSw.2.2.c3; simp only [Nat.zero_add] at y1 y2 y3; clear hSw; go_simp; try (with_reducible rfl))
   (try simp only [Act.put, List.setIfInBounds_toArray, List.set_cons_zero, List.set_cons_succ])
   refine wpAnyX_take (m := 8) (i := 6) (v := ?_) rfl (by kernel_rfl) (by kernel_rfl) (by decide) (by decide +kernel) (by decide +kernel) (fun _ _ _ h => h) (by kernel_rfl) (Or.inl ⟨by rfl, ?_⟩) (SX.both trivial (KEEP.out _ (Below.refl _ _))) ?_
   rotate_left
   ·(intro w hSw; have z0 := hSw.2.1; have y0 := hSw.2.2.c0; have y1 := hSw.2.2.c1; have y2 := hSw.2.2.c2; have y3 := hSw.2.2.c3; simp only [Nat.zero_add] at y1 y2 y3; clear hSw; go_simp; try (with_reducible rfl))
   (try simp only [Act.put, List.setIfInBounds_toArray, List.set_cons_zero, List.set_cons_succ])
   have SZ1 : Hid (szT T1 <= 100000000) := by
    show _ <= _
    rw [<- samV_size _ _ ST.out]
    exact SZ.out
   refine wpAnyX_twoG (β1 := TV) (β2 := Nat) 5 7 rfl rfl rfl rfl (by decide) (by decide +kernel) (by decide +kernel) (by decide +kernel) (I := fun w' => Below wd.heap.size wd w') (fun w' w'' h q => h.trans (q.mono h.size)) (fun w' L' h => SX.both trivial (KEEP.out w' h)) (T1 := fun T2 w' => samV T1 T2 /\ OwT wd.heap.size w' T2) (T2 := fun b' w' => w'.heap[b']? = some zTree) (f1 := TV.val) (f2 := fun b' => .slice (some ⟨b', 0, none⟩) 1 1) (fun T2 w' w'' h q => ⟨h.1, h.2.later q⟩) (fun b' w' w'' h q => (q.block _ (lt_of_block h)).trans h) (At := fun a' => a'.eval (.tmp 23) = T1.val) rfl (fun a' v h => (put_evalT a' (by decide) v).trans h) (fun a' v h => (put_evalT a' (by decide) v).trans h) ?s1 ?s2 (Below.refl _ _) ?go
   case s1 =>
    rintro a' w1 K h23 hi hk
    refine step_callX rfl 16 #[T1.val] _ (run_copyT1 (v0 := T1.val) rfl h23 _) (copyTree_W T1 w1 (HD.out.1.later hi).ow.ta SZ1.out) ?_
    rintro e w' ⟨T2, rfl, e2, e3, e4⟩
    exact ⟨_, rfl, hk T2 w' e2 ⟨e3, e4.mono hi.size⟩⟩
   case s2 =>
    rintro a' w1 K - hi hk
    go_simp
    exact hk w1.heap.size _ (below_alloc _ _) (heap_alloc_new _ _)
   case go =>
    rintro T2 b7 w6 hI6 - ⟨sm, ow⟩ hz7
    have H6 : Hid (Below wd.heap.size wd w6 /\ samV T1 T2 /\ OwT wd.heap.size w6 T2) := ⟨hI6, sm, ow⟩
    have NX : Hid (∀ j u, (trCells TV.none)[j]? = some u -> w6.cell? ⟨b7, j, none⟩ = some u) := fun j u hu => by
     rw [cellq_any hz7, <- hu]
     simp [trCells, TV.none, TV.prod, TV.kind, TV.tx, TV.ka, TV.kc, TV.kids, TV.pay, TV.mk]
    clear hI6 sm ow hz7
    (try simp only [Act.put, List.setIfInBounds_toArray, List.set_cons_zero, List.set_cons_succ])
    refine wpAnyX_one (j := 8) (by decide +kernel) rfl (fun K' hK => ?_)
    refine step_ro_append rkTree rfl (.tmp 22) (.tmp 26) rfl (.slice none 0 0) [] rfl (RO.nil _) b7 1 TV.none rfl NX.out (by simp) ?_
    intro a7 n7 c7 w7 ho7 hg7
    obtain ⟨gr, rfl, rfl, hgr, hro⟩ := ro_one ho7 hg7
    have B7 : Hid (Below wd.heap.size wd w7) := H6.out.1.trans ((grew_nil hg7).mono H6.out.1.size)
    have R7 : Hid (TRo w7 (.slice (some ⟨gr, 0, none⟩) 1 c7) [TV.none] /\ wd.heap.size <= gr /\ samV T1 T2 /\ OwT wd.heap.size w7 T2 /\ ∀ a ∈ adsL (kidsA T2), a.1 < gr) := ⟨hro, Nat.le_trans H6.out.1.size hgr, H6.out.2.1, H6.out.2.2.later (grew_nil hg7), fun a ha => Nat.lt_of_lt_of_le (kids_lt H6.out.2.2.ta ha) hgr⟩
    clear ho7 hg7 hgr hro NX H6
    refine hK.out _ _ (SX.both trivial (KEEP.out _ B7.out)) ?_
    clear hK K'
    (try simp only [Act.put, List.setIfInBounds_toArray, List.set_cons_zero, List.set_cons_succ])
    refine wpAnyX_takeP (m := 8) (i := 9) (v := ?_) rfl (by kernel_rfl) (by decide) (by decide +kernel) (by decide +kernel) (fun _ _ _ h => h) (Or.inl ⟨by rfl, ?_⟩) (SX.both trivial (KEEP.out _ B7.out)) ?_
    rotate_left
    ·(intro w hSw; clear hSw; go_simp; try (with_reducible rfl))
    (try simp only [Act.put, List.setIfInBounds_toArray, List.set_cons_zero, List.set_cons_succ])
    refine wpAnyX_takeP (m := 8) (i := 11) (v := ?_) rfl (by kernel_rfl) (by decide) (by decide +kernel) (by decide +kernel) (fun _ _ _ h => h) (Or.inl ⟨by rfl, ?_⟩) (SX.both trivial (KEEP.out _ B7.out)) ?_
    rotate_left
    ·(intro w hSw; clear hSw; go_simp; try (with_reducible rfl))
    (try simp only [Act.put, List.setIfInBounds_toArray, List.set_cons_zero, List.set_cons_succ])
    refine wpAnyX_takeP (m := 8) (i := 12) (v := ?_) rfl (by kernel_rfl) (by decide) (by decide +kernel) (by decide +kernel) (fun _ _ _ h => h) (Or.inl ⟨by rfl, ?_⟩) (SX.both trivial (KEEP.out _ B7.out)) ?_
    rotate_left
    ·(intro w hSw; clear hSw; go_simp; try (with_reducible rfl))
    (try simp only [Act.put, List.setIfInBounds_toArray, List.set_cons_zero, List.set_cons_succ])
    have G7 : Hid (Gv2 q w.heap.size (updV V 20 (.slice (some ⟨g1, 0, none⟩) 1 c1)) w b5 T1 w7 /\ TRo w7 (.slice (some ⟨g1, 0, none⟩) 1 c1) [T1]) := ⟨HD.out.1.later B7.out, HD.out.2.later B7.out⟩
    have hqg : q ≠ gr := by
     have h1 := lt_of_block HD.out.1.hq
     have h3 := R7.out.2.1
     omega
    have FIN : Hid (Gv4 q w.heap.size (updV V 20 (.slice (some ⟨g1, 0, none⟩) 1 c1)) w b5 T1 g1 c1 ((set4 w7 gr 0 T2).setCell ⟨q, 21, none⟩ (.slice (some ⟨gr, 0, none⟩) 1 c7))) := by
     have h1 := lt_of_block HD.out.1.bx
     have h2 := lt_of_block HD.out.1.rz
     have h3 := R7.out.2.1
     have hg1 := HD.out.2.lt g1 rfl
     refine gv4_a G7.out.1 R7.out.1 (fun k hk => ?_) (by omega) R7.out.2.2.1 R7.out.2.2.2.1 (fun a ha => Nat.ne_of_lt (R7.out.2.2.2.2 a ha)) (fun a ha => by have := (R7.out.2.2.2.1.ty a ha).1; have := lt_of_block HD.out.1.hq; omega) G7.out.2 (by omega) (by have := HC.out.2.2.1; have := HD.out.1.qn; omega) h2
     rcases hk with rfl | rfl | hk
     ·omega
     ·omega
     ·obtain ⟨a, ha, rfl⟩ := List.mem_map.1 hk
      have := kids_lt HD.out.1.ow.ta ha
      omega
    obtain ⟨tb7, cs7, ty7⟩ := tro_bx R7.out.1
    have th7 : w7.there gr 0 4 := tbx_there tb7 ty7
    obtain ⟨q20, fr20⟩ := G7.out.1.cell (i := 21) (by omega)
    rw [V21.out] at q20
    have s20 : (set4 w7 gr 0 T2).cell? ⟨q, 21, none⟩ = some (.slice none 0 0) /\ (set4 w7 gr 0 T2).frozen? ⟨q, 21, none⟩ = false := by
     have e := set4_other w7 gr 0 T2 q hqg
     refine ⟨(World.cell?_of_block e).trans q20, ?_⟩
     have := fr20
     simp only [World.frozen?] at this ⊢
     rw [e]; exact this
    have th8 : (w7.setCell ⟨q, 21, none⟩ (.slice (some ⟨gr, 0, none⟩) 1 c7)).there gr 0 4 := fun j hj => by
     obtain ⟨t1, t2⟩ := th7 j hj
     have e : (w7.setCell ⟨q, 21, none⟩ (.slice (some ⟨gr, 0, none⟩) 1 c7)).heap[gr]? = w7.heap[gr]? := Below.heap_setCell _ _ _ _ (Ne.symm hqg)
     refine ⟨by rw [World.cell?_of_block e]; exact t1, ?_⟩
     simp only [World.frozen?] at t2 ⊢
     rw [e]; exact t2
    have SW : Hid (Gv4 q w.heap.size (updV V 20 (.slice (some ⟨g1, 0, none⟩) 1 c1)) w b5 T1 g1 c1 (set4 (w7.setCell ⟨q, 21, none⟩ (.slice (some ⟨gr, 0, none⟩) 1 c7)) gr 0 T2)) := by
     show Gv4 _ _ _ _ _ _ _ _ _
     rw [set_swap _ hqg]; exact FIN.out
    refine pickT (l := [10, 13]) (by decide +kernel) (by simp) (fun j hj => ?_)
    simp only [List.mem_cons, List.not_mem_nil, or_false] at hj
    rcases hj with hj | hj <;> rw [hj]
    ·refine ⟨_, rfl, fun K' hK => ?_⟩
     refine step_storeO rfl 31 (.tmp 28) (.tmp 24) rfl gr 0 #[.int .i64 T2.prod, .int .i64 T2.kind, .string T2.tx, .slice T2.ka T2.kids.length T2.kc] rfl rfl th7 (by kernel_rfl) (by kernel_rfl) ?_
     have e7 : w7.setCells gr 0 (#[Value.int .i64 T2.prod, .int .i64 T2.kind, .string T2.tx, .slice T2.ka T2.kids.length T2.kc] : Array Value).toList = set4 w7 gr 0 T2 := rfl
     rw [e7]
     clear e7
     refine hK.out _ _ (SX.one trivial (by kernel_rfl)) ?_
     clear hK K' SW
     (try simp only [Act.put, List.setIfInBounds_toArray, List.set_cons_zero, List.set_cons_succ])
     obtain ⟨s1, s2⟩ := s20
     generalize set4 w7 gr 0 T2 = w8 at *
     refine wpAnyX_one (j := 13) (by decide +kernel) rfl (fun K' hK => ?_)
     go_simp
     refine hK.out _ _ (SX.one trivial (by kernel_rfl)) ?_
     clear hK K'
     (try simp only [Act.put, List.setIfInBounds_toArray, List.set_cons_zero, List.set_cons_succ])
     refine wpAnyX_done (by decide +kernel) ?_
     go_wp2_with fail
     go_meet
     exact ⟨rfl, FIN.out⟩
    ·refine ⟨_, rfl, fun K' hK => ?_⟩
     go_simp
     refine hK.out _ _ (SX.one trivial (by kernel_rfl)) ?_
     clear hK K' FIN s20
     (try simp only [Act.put, List.setIfInBounds_toArray, List.set_cons_zero, List.set_cons_succ])
     refine wpAnyX_one (j := 10) (by decide +kernel) rfl (fun K' hK => ?_)
     refine step_storeO rfl 31 (.tmp 28) (.tmp 24) rfl gr 0 #[.int .i64 T2.prod, .int .i64 T2.kind, .string T2.tx, .slice T2.ka T2.kids.length T2.kc] rfl rfl th8 (by kernel_rfl) (by kernel_rfl) ?_
     refine hK.out _ _ (SX.one trivial (by kernel_rfl)) ?_
     clear hK K'
     (try simp only [Act.put, List.setIfInBounds_toArray, List.set_cons_zero, List.set_cons_succ])
     refine wpAnyX_done (by decide +kernel) ?_
     go_wp2_with fail
     go_meet
     exact ⟨rfl, SW.out⟩
  case rest =>
   obtain ⟨e5, ⟨T2, ⟨g2, c2, G2, R2, hN2, hb2, hz2⟩, sm, ta2, R1, hT2⟩⟩ := hcut
   subst e5
   obtain ⟨y0, y1, y2, y3⟩ := tb_cells G2.bx
   obtain ⟨d0, d1, d2, d3, f0, f1, f2, f3⟩ := z_cells G2.rz
   have FIN : Hid (TBx (set4 wc (w.heap.size + 1) 0 T1) (w.heap.size + 1) 0 T1 /\ Lv q w.heap.size w (set4 wc (w.heap.size + 1) 0 T1) /\ (set4 wc (w.heap.size + 1) 0 T1).heap[q]? = some (.cells (hArr (updV (updV V 20 (.slice (some ⟨g1, 0, none⟩) 1 c1)) 21 (.slice (some ⟨g2, 0, none⟩) 1 c2))) 43 (0, 0)) /\ TRo (set4 wc (w.heap.size + 1) 0 T1) (.slice (some ⟨g1, 0, none⟩) 1 c1) [T1] /\ TRo (set4 wc (w.heap.size + 1) 0 T1) (.slice (some ⟨g2, 0, none⟩) 1 c2) [T2] /\ TAt (set4 wc (w.heap.size + 1) 0 T1) T1 /\ TAt (set4 wc (w.heap.size + 1) 0 T1) T2 /\ samV t T1 /\ samV T1 T2 /\ w.heap.size <= g1 /\ w.heap.size <= g2 /\ (∀ a ∈ adsL (kidsA T1), w.heap.size <= a.1) /\ ∀ a ∈ adsL (kidsA T2), w.heap.size <= a.1) := by
    have e : ∀ k, k ≠ w.heap.size + 1 -> (set4 wc (w.heap.size + 1) 0 T1).heap[k]? = wc.heap[k]? := fun k hk => set4_other _ _ _ _ _ hk
    have hs : wc.heap.size <= (set4 wc (w.heap.size + 1) 0 T1).heap.size := by rw [set4_size]; exact Nat.le_refl _
    have hqn := G2.qn
    refine ⟨set4_tbx T1 d0 d1 d2 d3 (lt_of_block G2.rz), G2.lv.trans ⟨rfl, rfl, rfl, hs, fun k hk _ => e k (by omega)⟩, (e q (by omega)).trans G2.hq, R1.kept fun j hj => ?_, R2.kept fun j hj => ?_, (G2.ow.kept (fun a ha => e _ (by have := (G2.ow.ty a ha).1; omega)) hs).ta, keep_at T2 0 0 ta2 fun a ha => ⟨Nat.lt_of_lt_of_le (kids_lt ta2 ha) hs, fun j _ => World.cell?_of_block (e a.1 (by have := hT2 a ha; omega))⟩, ST.out, sm, HC.out.2.2.1, hN2, fun a ha => by have := (G2.ow.ty a ha).1; omega, fun a ha => by have := hT2 a ha; omega⟩
    ·simp [Value.ownBlock] at hj
     subst hj
     exact e _ HC.out.2.2.2
    ·simp [Value.ownBlock] at hj
     subst hj
     exact e _ hz2
   clear G2 R2 hN2 hb2 hz2 sm ta2 R1 hT2 HC ST V21 V20 SZ
   go_wp2
   change bodyPost _ _ _ _ _ (set4 wc (w.heap.size + 1) 0 T1)
   generalize set4 wc (w.heap.size + 1) 0 T1 = w9 at *
   have x0 := FIN.out.1.c0
   have x1 := FIN.out.1.c1
   have x2 := FIN.out.1.c2
   have x3 := FIN.out.1.c3
   simp only [Nat.zero_add] at x1 x2 x3
   refine bodyPost_ret (v := T1.val) (by simp [results, Tryz.results5, go_sem, x0, x1, x2, x3]) rfl ?_
   exact ⟨T1, T2, g1, g2, c1, c2, rfl, FIN.out.2⟩
end Go.Proofs.YtndbdliaidbocaaGreat
