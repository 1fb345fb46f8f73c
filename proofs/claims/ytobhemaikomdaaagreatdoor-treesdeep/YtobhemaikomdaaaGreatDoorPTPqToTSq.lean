import Derived.Test.YtobhemaikomdaaaGreatDoorPTBqToRegXIn
import Derived.Test.YtobhemaikomdaaaGreatDoorPTDgToPR5
import Derived.Test.YtobhemaikomdaaaGreatDoorPTB13ToTB28
import Derived.BigQuiet
namespace Go.Proofs.YtobhemaikomdaaaGreatDoor
set_option linter.unusedVariables false
open Go.RowKit Go.Shelf
theorem infoPtr_parts : ∃ i, Tryz.prog.info? 64 = some i /\ i.zero = some (.pointer none) /\ i.size = 1 /\ i.bytes = 8 := by
 have h : (Tryz.prog.info? 64).map (fun i => (i.zero, i.size, i.bytes)) = some (some (.pointer none), 1, 8) := by kernel_rfl
 cases e : Tryz.prog.info? 64 with
 | none => rw [e] at h; cases h
 | some i =>
  rw [e] at h
  simp at h
  exact ⟨i, rfl, h.1, h.2.1, h.2.2⟩
def ptC (l : List (Nat × Nat)) : List Value := l.map fun a => .pointer (some ⟨a.1, a.2, none⟩)
theorem ptC_len (l : List (Nat × Nat)) : (ptC l).length = l.length := by simp [ptC]
theorem ptC_app (l : List (Nat × Nat)) (x : Nat × Nat) : ptC (l ++ [x]) = ptC l ++ [.pointer (some ⟨x.1, x.2, none⟩)] := by simp [ptC]
def kpA (o : TV) (i : Nat) : Nat × Nat := ((kadr o).1, (kadr o).2 + i * 4)
theorem kpA_at {o : TV} {b off : Nat} (h : o.ka = some ⟨b, off, none⟩) (i : Nat) : kpA o i = (b, off + i * 4) := by unfold kpA kadr; rw [h]
def FrQ (w W : World) : Prop := ∀ (j : Nat) (o : Obj), w.heap[j]? = some o -> ¬ PtrTy o -> W.heap[j]? = some o
theorem frQ_own {β : Type} {w : World} {B : Nat} (hB : w.heap.size <= B) : OwnFrom B (fun (_ : β) W => Below 0 w W /\ FrQ w W) := fun _ X Y row hs hg hr => by
 refine ⟨hs.1.grown hg (Nat.zero_le _) (fun _ _ => Nat.zero_le _), fun j o q s => ?_⟩
 rw [hg.block j (Nat.lt_of_lt_of_le (lt_of_block q) hs.1.size) (fun e => ?_), hs.2 j o q s]
 have := (hr j e.symm).1
 have := lt_of_block q
 omega
section
variable {F : Fence} {n : Nat} {P : Program}
theorem step_appendIn {ops : Array Oper} {o : Oper} {a : Act} {w : World} {K : Act -> World -> Prop} {Q : Exit -> Act -> World -> Prop} {E : Prop} (hg : o.guard = none) (s x : Operand) (t : TypeId) (hop : o.op = Op.call { callee := Callee.builtin Builtin.append, args := #[s, x], argTypes := #[t, t] })
  (base : Nat) (e : TypeId) (i : TypeInfo) (z : Value) (size bytes : Nat) (h1 : P.underlying t = some (.slice e)) (h2 : P.info? e = some i) (h3 : i.zero = some z) (h4 : i.size = size) (h5 : i.bytes = bytes) (h6 : z.cells.size = size) (h7 : 0 < size)
  (v : Value) (k : Nat) (xs : List Value) (hs : a.eval s = v) (hown : w.ownsRow base e size v k xs) (ad : Addr) (m c : Nat) (news : List Value) (hx : a.eval x = .slice (some ad) m c) (hn : news.length = m * size)
  (hc : ∀ j u, news[j]? = some u -> w.cell? (ad.add j) = some u) (h1c : ∀ u ∈ news, u.oneCell' = true) (b1 : k + m <= maxLen) (b2 : (k + m) * bytes <= 140737488355328) (b3 : base <= w.heap.size)
  (hK : ∀ v' w', w'.ownsRow base e size v' (k + m) (xs ++ news) -> w.grownBy w' v.ownBlock -> (v'.ownBlock = v.ownBlock ∨ v'.ownBlock = some w.heap.size) -> K (a.put o.dst v') w') :
  if Region.wanted o (yielded ops a.tmps) = true then Oper.wpIn F n P o a w K Q else E := by
 have hw : Region.wanted o (yielded ops a.tmps) = true := by simp [Region.wanted, hg]
 rw [if_pos hw]
 obtain ⟨v', w', hrun, r1, r2, _, r4⟩ := run_append_own_at (P := P) (w := w) base t o.type e i z size bytes h1 h2 h3 h4 h5 h6 h7 v k xs hown ad m c news hn hc h1c b1 b2 b3
 unfold Oper.wpIn
 refine ⟨?_, ?_⟩
 ·simp [Oper.about, hop, resolve, Target.leads, Sem.run_pure]
 ·rw [Oper.semAt_plain F _ _ (by rw [hop]; intro c hc'; cases hc')]
  simp [execOp, hop, resolve, invoke, builtin, hs, hx, hrun, Result.andThen]
  exact hK v' w' r1 r2 r4
end
theorem ownsRow_bel {w w' : World} {N k n : Nat} {τ : TypeId} {v : Value} {xs : List Value} (h : w.ownsRow N τ k v n xs) (hb : Below w.heap.size w w') : w'.ownsRow N τ k v n xs := by
 refine ⟨h.1, ?_⟩
 rcases h.2 with q | ⟨g, cap, cur, rfl, h1, h2, h3⟩
 ·exact .inl q
 ·exact .inr ⟨g, cap, cur, rfl, h1, (hb.block g (lt_of_block h2)).trans h2, h3⟩
def pkS (lb bb p q : Nat) (v kv : Value) (w : World) : Prop := w.cell? ⟨lb, 0, none⟩ = some v /\ w.cell? ⟨bb, 0, none⟩ = some (.pointer (some ⟨p, q, none⟩)) /\ w.cell? ⟨p, q + 3, none⟩ = some kv
set_option linter.unusedSimpArgs false in
set_option maxRecDepth 100000 in
set_option maxHeartbeats 4000000 in
theorem pushKids_W (N : Nat) (v : Value) (due : List (Nat × Nat)) (p q : Nat) (o : TV) (w : World) (hN : N <= w.heap.size) (hv : w.ownsRow N 64 1 v due.length (ptC due)) (ho : ∀ W', Below N w W' -> TBx W' p q o /\ KRow W' o.ka o.kids) (hlen : due.length + o.kids.length <= 1000000000) :
  Calls Tryz.prog 47 #[v, .pointer (some ⟨p, q, none⟩)] w fun e w' => ∃ v', e = .returned v' /\ w'.ownsRow N 64 1 v' (due ++ (bkQ o.kids.length).map fun x => kpA o x.1).length (ptC (due ++ (bkQ o.kids.length).map fun x => kpA o x.1)) /\ Below N w w' /\ FrQ w w' := by
 obtain ⟨va, vc, rfl⟩ : ∃ va vc, v = .slice va due.length vc := by
  rcases hv.2 with ⟨rfl, h0⟩ | ⟨g, cap, cur, rfl, _⟩
  ·exact ⟨none, 0, by rw [h0]⟩
  ·exact ⟨_, _, rfl⟩
 obtain ⟨i0, hi, hz0, hz1, hz2⟩ := infoPtr_parts
 have q3 := (ho w (Below.refl _ _)).1.c3
 have qlt := (ho w (Below.refl _ _)).1.lt
 have e1 : ∀ (u : World) (o : Obj), (u.alloc o).heap.size = u.heap.size + 1 := fun u o => by simp
 have b1 : Below w.heap.size w (w.alloc (.cells #[.slice va due.length vc] 92)) := below_alloc _ _
 have q3a : ((w.alloc (.cells #[.slice va due.length vc] 92)).alloc (.cells #[.pointer (some ⟨p, q, none⟩)] 64)).cell? ⟨p, q + 3, none⟩ = some (.slice o.ka o.kids.length o.kc) := ((b1.trans ((below_alloc _ _).mono b1.size)).cell (p := ⟨p, q + 3, none⟩) qlt).trans q3
 have p3a : ((w.alloc (.cells #[.slice va due.length vc] 92)).alloc (.cells #[.pointer (some ⟨p, q, none⟩)] 64)).cell? ⟨w.heap.size + 1, 0, none⟩ = some (.pointer (some ⟨p, q, none⟩)) := by
  have := heap_alloc_new (w.alloc (.cells #[.slice va due.length vc] 92)) (.cells #[.pointer (some ⟨p, q, none⟩)] 64)
  rw [e1] at this
  exact (cellq_any this).trans rfl
 refine (callsIn_wide (n := 6)).1 ?_
 refine callsIn_of_wp_marks Tryz.func47 rfl trivial ?_ rfl
 simp only [Tryz.ntmps47, List.size_toArray, List.length_cons, List.length_nil, Nat.reduceAdd, Nat.reduceSub, Array.replicate_succ, Array.replicate_zero, List.push_toArray, List.append_toArray, List.nil_append, List.cons_append]
 gi_wp2_with (refine ⟨trivial, ?_⟩; gi_at_call 86; refine (callsIn_wide.2 (backwardQ_W o.ka o.kids.length o.kc _)).mono ?_; rintro e w' ⟨rfl, rfl⟩)
 clear q3a p3a q3
 have b2 : Below w.heap.size w ((w.alloc (.cells #[.slice va due.length vc] 92)).alloc (.cells #[.pointer (some ⟨p, q, none⟩)] 64)) := b1.trans ((below_alloc _ _).mono b1.size)
 have b3 : Below w.heap.size w (((w.alloc (.cells #[.slice va due.length vc] 92)).alloc (.cells #[.pointer (some ⟨p, q, none⟩)] 64)).alloc (.cells #[.slice o.ka o.kids.length o.kc] 30)) := b2.trans ((below_alloc _ _).mono b2.size)
 have n1 := heap_alloc_new w (.cells #[.slice va due.length vc] 92)
 have n2 := heap_alloc_new (w.alloc (.cells #[.slice va due.length vc] 92)) (.cells #[.pointer (some ⟨p, q, none⟩)] 64)
 have n3 := heap_alloc_new ((w.alloc (.cells #[.slice va due.length vc] 92)).alloc (.cells #[.pointer (some ⟨p, q, none⟩)] 64)) (.cells #[.slice o.ka o.kids.length o.kc] 30)
 have z1 := e1 w (.cells #[.slice va due.length vc] 92)
 have z2 := e1 (w.alloc (.cells #[.slice va due.length vc] 92)) (.cells #[.pointer (some ⟨p, q, none⟩)] 64)
 have z3 := e1 ((w.alloc (.cells #[.slice va due.length vc] 92)).alloc (.cells #[.pointer (some ⟨p, q, none⟩)] 64)) (.cells #[.slice o.ka o.kids.length o.kc] 30)
 have c12 := below_alloc (w.alloc (.cells #[.slice va due.length vc] 92)) (.cells #[.pointer (some ⟨p, q, none⟩)] 64)
 have c23 := below_alloc ((w.alloc (.cells #[.slice va due.length vc] 92)).alloc (.cells #[.pointer (some ⟨p, q, none⟩)] 64)) (.cells #[.slice o.ka o.kids.length o.kc] 30)
 have hv3 := ((hv.alloc (.cells #[.slice va due.length vc] 92)).alloc (.cells #[.pointer (some ⟨p, q, none⟩)] 64)).alloc (.cells #[.slice o.ka o.kids.length o.kc] 30)
 rw [z1] at n2 z2 c12
 rw [z2] at n3 z3 c23
 have m1 := (c23.block _ (by omega)).trans ((c12.block _ (by omega)).trans n1)
 have m2 := (c23.block _ (by omega)).trans n2
 obtain ⟨W0, hW0⟩ : ∃ W0, (((w.alloc (.cells #[.slice va due.length vc] 92)).alloc (.cells #[.pointer (some ⟨p, q, none⟩)] 64)).alloc (.cells #[.slice o.ka o.kids.length o.kc] 30)) = W0 := ⟨_, rfl⟩
 rw [hW0] at b3 n3 z3 hv3 m1 m2 ⊢
 clear hW0 c12 c23 n1 n2 z1 z2 b1 b2
 refine wpIn_rangeFunc_ownH rfl (by omega) (gf := 108) (lb := #[.pointer (some ⟨w.heap.size + 1 + 1, 0, none⟩)]) rfl trivial (enters_of Tryz.func108 (by kernel_rfl) rfl)
  (backQ_seq Fence.wide _ trivial rfl (by omega) (w.heap.size + 1 + 1) N w.heap.size o.ka o.kc o.kids (by omega) W0 (by omega) n3 (by omega) (fun W' hb => (ho W' ((b3.mono hN).trans hb)).2)) KpQ.t (KpQ.b (by omega) (by omega) (by omega)) (Below.refl _ _) (fun _ => rfl)
  (fun (pre : List (Fin o.kids.length)) W => ((∃ v', Boxed W w.heap.size 92 v' /\ W.ownsRow N 64 1 v' (due.length + pre.length) (ptC (due ++ pre.map fun x => kpA o x.1)) /\ v'.ownBlock ≠ some (w.heap.size + 1)) /\ (Boxed W (w.heap.size + 1) 64 (.pointer (some ⟨p, q, none⟩)) /\ Boxed W (w.heap.size + 1 + 1) 30 (.slice o.ka o.kids.length o.kc))) /\ (Below N w W /\ (Below 0 w W /\ FrQ w W)))
  (fun _ _ _ => False)
  (OwnFrom.and (OwnFrom.and (Own.from (holdsRow_own N w.heap.size 92 64 1 (fun pre : List (Fin o.kids.length) => due.length + pre.length) (fun pre => ptC (due ++ pre.map fun x => kpA o x.1)) (fun _ v' => v'.ownBlock ≠ some (w.heap.size + 1))) _) (OwnFrom.and (Own.from (boxed_ownT _ _ _) _) (Own.from (boxed_ownT _ _ _) _))) (OwnFrom.and (ownFrom_below hN (by omega)) (frQ_own (by omega))))
  (fun _ _ _ _ _ hs _ _ => hs)
  ⟨⟨⟨.slice va due.length vc, m1, by simpa using hv3, fun e => by have := (World.ownsRow.lt hv _ e).2; omega⟩, m2, n3⟩, b3.mono hN, b3.mono (Nat.zero_le _), fun j o q _ => (b3.block _ (lt_of_block q)).trans q⟩
  (fun x a' W => a' = { tmps := #[.slice va due.length vc, .pointer (some ⟨p, q, none⟩), .pointer (some ⟨w.heap.size, 0, none⟩), .pointer (some ⟨w.heap.size + 1, 0, none⟩), .slice none 0 0, .int .i64 ((x.1 : Nat) : Int), .pointer (some ⟨p, q, none⟩), .pointer (some ⟨p, q, none⟩), .pointer (some ⟨p, q + 3, none⟩), .slice o.ka o.kids.length o.kc, .func (.func 108) #[] #[.pointer (some ⟨w.heap.size + 1 + 1, 0, none⟩)], .int .i64 ((x.1 : Nat) : Int), bkE o.kids x.1, undef, undef, undef, undef, undef, undef, undef, undef, undef, undef], defers := [] })
  (fun x a' _ X Y row hs hg hr' => hs)
  ?assign ?body ?done ?stop
 case assign =>
  rintro l' pre x W K ⟨⟨⟨v1, c1, c2, c2o⟩, c3, c4⟩, hB, hF⟩ hK
  have hsa := @Oper.semAt_some
  gi_wp2
  exact hK _ _ ((KeepsOthers.refl _).from _) ⟨Below.refl _ _, rfl, fun j o _ q _ => q⟩ ⟨⟨⟨v1, c1, c2, c2o⟩, c3, c4⟩, hB, hF⟩ rfl
 case body =>
  rintro l' pre x a' W hl' ⟨r, hr'⟩ ⟨⟨⟨v1, c1, c2, c2o⟩, c3, c4⟩, hB, hF⟩ rfl hlt
  obtain ⟨tb, kr⟩ := ho W hB
  obtain ⟨b, off, hka, -⟩ := krow_kid kr x.2
  have hkp := kpA_at hka x.1
  have hNW : N <= W.heap.size := Nat.le_trans hN hB.size
  obtain ⟨v1a, v1n, v1c, rfl⟩ : ∃ a n c, v1 = .slice a n c := by
   rcases c2.2 with ⟨rfl, h0⟩ | ⟨g, cap, cur, rfl, _⟩
   ·exact ⟨_, _, _, rfl⟩
   ·exact ⟨_, _, _, rfl⟩
  have hX : Below W.heap.size W W.drew := (Below.refl _ _).drew
  obtain ⟨X, hXe⟩ : ∃ X, X = W.drew := ⟨_, rfl⟩
  rw [<- hXe] at hX
  have hXs : X.heap.size = W.heap.size := by rw [hXe]; rfl
  have d1 : Boxed X w.heap.size 92 (.slice v1a v1n v1c) := (hX.block _ c1.lt).trans c1
  have d2 : X.ownsRow N 64 1 (.slice v1a v1n v1c) (due.length + pre.length) (ptC (due ++ pre.map fun x => kpA o x.1)) := ownsRow_bel c2 hX
  have d3 : Boxed X (w.heap.size + 1) 64 (.pointer (some ⟨p, q, none⟩)) := (hX.block _ c3.lt).trans c3
  have hBX : Below N w X := hB.trans (hX.mono hNW)
  have tbX := (ho X hBX).1
  have hs : Hid (pkS w.heap.size (w.heap.size + 1) p q (.slice v1a v1n v1c) (.slice o.ka o.kids.length o.kc) X) := ⟨d1.cell, d3.cell, tbX.c3⟩
  have xlt : ((x.1 : Nat) : Int) < (o.kids.length : Int) := by have := x.2; omega
  have xnn : (0 : Int) <= ((x.1 : Nat) : Int) := by omega
  rw [hka] at hs
  have HKA : Hid (o.ka = some ⟨b, off, none⟩) := hka
  have HKP : Hid (kpA o x.1 = (b, off + x.1 * 4)) := hkp
  rw [hka]
  clear hka hkp kr tb
  have hsa := @Oper.semAt_some
  gi_wp2
  refine wpIn_region_x (S := SX 9 (fun _ => True) (pkS w.heap.size (w.heap.size + 1) p q (.slice v1a v1n v1c) (.slice (some ⟨b, off, none⟩) o.kids.length o.kc))) (by kernel_rfl) ?_
  rw [<- hXe]
  clear hXe
  refine wpAnyXIn_take (m := 9) (i := 0) (v := ?_) (by kernel_rfl) rfl (by kernel_rfl) (by kernel_rfl) (by decide) (by decide +kernel) (by decide +kernel) (fun _ _ _ h => h) (by kernel_rfl) (fun _ => rfl) (Or.inl ⟨by rfl, ?_⟩) (SX.both trivial hs.out) ?_
  rotate_left
  ·(intro w hSw; have z0 := hSw.2; unfold pkS at z0; obtain ⟨z1, z2, z3⟩ := z0; clear hSw; go_simp; try (with_reducible rfl))
  (try simp only [Act.put, List.setIfInBounds_toArray, List.set_cons_zero, List.set_cons_succ])
  refine wpAnyXIn_take (m := 9) (i := 1) (v := ?_) (by kernel_rfl) rfl (by kernel_rfl) (by kernel_rfl) (by decide) (by decide +kernel) (by decide +kernel) (fun _ _ _ h => h) (by kernel_rfl) (fun _ => rfl) (Or.inl ⟨by rfl, ?_⟩) (SX.both trivial hs.out) ?_
  rotate_left
  ·(intro w hSw; have z0 := hSw.2; unfold pkS at z0; obtain ⟨z1, z2, z3⟩ := z0; clear hSw; go_simp; try (with_reducible rfl))
  (try simp only [Act.put, List.setIfInBounds_toArray, List.set_cons_zero, List.set_cons_succ])
  refine wpAnyXIn_take (m := 9) (i := 2) (v := ?_) (by kernel_rfl) rfl (by kernel_rfl) (by kernel_rfl) (by decide) (by decide +kernel) (by decide +kernel) (fun _ _ _ h => h) (by kernel_rfl) (fun _ => rfl) (Or.inl ⟨by rfl, ?_⟩) (SX.both trivial hs.out) ?_
  rotate_left
  ·(intro w hSw; have z0 := hSw.2; unfold pkS at z0; obtain ⟨z1, z2, z3⟩ := z0; clear hSw; go_simp; try (with_reducible rfl))
  (try simp only [Act.put, List.setIfInBounds_toArray, List.set_cons_zero, List.set_cons_succ])
  refine wpAnyXIn_take (m := 9) (i := 3) (v := ?_) (by kernel_rfl) rfl (by kernel_rfl) (by kernel_rfl) (by decide) (by decide +kernel) (by decide +kernel) (fun _ _ _ h => h) (by kernel_rfl) (fun _ => rfl) (Or.inl ⟨by rfl, ?_⟩) (SX.both trivial hs.out) ?_
  rotate_left
  ·(intro w hSw; have z0 := hSw.2; unfold pkS at z0; obtain ⟨z1, z2, z3⟩ := z0; clear hSw; go_simp; try (with_reducible rfl))
  (try simp only [Act.put, List.setIfInBounds_toArray, List.set_cons_zero, List.set_cons_succ])
  refine wpAnyXIn_take (m := 9) (i := 4) (v := ?_) (by kernel_rfl) rfl (by kernel_rfl) (by kernel_rfl) (by decide) (by decide +kernel) (by decide +kernel) (fun _ _ _ h => h) (by kernel_rfl) (fun _ => rfl) (Or.inl ⟨by rfl, ?_⟩) (SX.both trivial hs.out) ?_
  rotate_left
  ·(intro w hSw; have z0 := hSw.2; unfold pkS at z0; obtain ⟨z1, z2, z3⟩ := z0; clear hSw; go_simp; try (with_reducible rfl))
  (try simp only [Act.put, List.setIfInBounds_toArray, List.set_cons_zero, List.set_cons_succ])
  refine wpAnyXIn_take (m := 9) (i := 5) (v := ?_) (by kernel_rfl) rfl (by kernel_rfl) (by kernel_rfl) (by decide) (by decide +kernel) (by decide +kernel) (fun _ _ _ h => h) (by kernel_rfl) (fun _ => rfl) (Or.inl ⟨by rfl, ?_⟩) (SX.both trivial hs.out) ?_
  rotate_left
  ·(intro w hSw; have z0 := hSw.2; unfold pkS at z0; obtain ⟨z1, z2, z3⟩ := z0; clear hSw; go_simp; try (with_reducible rfl))
  (try simp only [Act.put, List.setIfInBounds_toArray, List.set_cons_zero, List.set_cons_succ])
  refine wpAnyXIn_take (m := 9) (i := 6) (v := ?_) (by kernel_rfl) rfl (by kernel_rfl) (by kernel_rfl) (by decide) (by decide +kernel) (by decide +kernel) (fun _ _ _ h => h) (by kernel_rfl) (fun _ => rfl) (Or.inl ⟨by rfl, ?_⟩) (SX.both trivial hs.out) ?_
  rotate_left
  ·(intro w hSw; have z0 := hSw.2; unfold pkS at z0; obtain ⟨z1, z2, z3⟩ := z0; clear hSw; go_simp; try (with_reducible rfl))
  (try simp only [Act.put, List.setIfInBounds_toArray, List.set_cons_zero, List.set_cons_succ])
  refine wpAnyXIn_one (j := 7) (by decide +kernel) rfl (fun K' hK => ?_)
  go_simp
  have hB7 := below_alloc X (.cells #[.pointer (some ⟨b, off + x.1 * 4, none⟩)] 64)
  have hn7 := heap_alloc_new X (.cells #[.pointer (some ⟨b, off + x.1 * 4, none⟩)] 64)
  have hs7 : Hid (pkS w.heap.size (w.heap.size + 1) p q (.slice v1a v1n v1c) (.slice (some ⟨b, off, none⟩) o.kids.length o.kc) (X.alloc (.cells #[.pointer (some ⟨b, off + x.1 * 4, none⟩)] 64))) := by
   obtain ⟨s1, s2, s3⟩ := hs.out
   exact ⟨cellW hB7 s1, cellW hB7 s2, cellW hB7 s3⟩
  refine hK.out _ _ (SX.both trivial hs7.out) ?_
  clear hK K'
  (try simp only [Act.put, List.setIfInBounds_toArray, List.set_cons_zero, List.set_cons_succ])
  refine wpAnyXIn_one (j := 8) (by decide +kernel) rfl (fun K' hK => ?_)
  have NX : ∀ j u, [Value.pointer (some ⟨b, off + x.1 * 4, none⟩)][j]? = some u -> (X.alloc (.cells #[.pointer (some ⟨b, off + x.1 * 4, none⟩)] 64)).cell? ((⟨W.heap.size, 0, none⟩ : Addr).add j) = some u := fun j u hu => by
   rw [<- hXs, add_none, Nat.zero_add, cellq_any hn7, <- hu]
   simp
  have hlt' : pre.length < 1000000000 := by omega
  refine step_appendIn rfl (.tmp 13) (.tmp 20) 92 rfl N 64 i0 (.pointer none) 1 8 Tryz.underlying92 hi hz0 hz1 hz2 rfl (by decide) (.slice v1a v1n v1c) _ _ (by rfl) (d2.alloc _) ⟨W.heap.size, 0, none⟩ 1 1 [.pointer (some ⟨b, off + x.1 * 4, none⟩)] (by rfl) rfl NX (by simp [Value.oneCell']) (by unfold maxLen; omega) (by omega) (by rw [e1]; omega) ?_
  intro v' w1 hown' hgrow hmv
  obtain ⟨g', cap', rfl⟩ := ownsRow_succ hown'
  obtain ⟨hv1, hv2', hr2, hk2, hb2⟩ := d1.appended (by decide) d2 (by omega) hN hown' hgrow
  have hoN : ∀ j, (Value.slice v1a v1n v1c).ownBlock = some j -> N <= j := fun j hj => (World.ownsRow.lt d2 j hj).1
  have hBw1 : Below N w w1 := (hBX.trans (hB7.mono (by omega))).grown hgrow (by rw [e1]; omega) hoN
  have m3 : w1.heap[w.heap.size + 1]? = some (.cells #[.pointer (some ⟨p, q, none⟩)] 64) := by
   have hl := d3.lt
   rw [hgrow.block _ (by rw [e1]; omega) (fun e => c2o e.symm)]
   exact (hB7.block _ hl).trans d3
  have hs8 : Hid (pkS w.heap.size (w.heap.size + 1) p q (.slice v1a v1n v1c) (.slice (some ⟨b, off, none⟩) o.kids.length o.kc) w1) := by
   have t3 := (ho w1 hBw1).1.c3
   rw [HKA.out] at t3
   exact ⟨hv1.cell, (cellq_any m3).trans rfl, t3⟩
  have f1 := hv1.frozen
  have x1c := hv1.cell
  refine hK.out _ _ (SX.both trivial hs8.out) ?_
  clear hK K'
  (try simp only [Act.put, List.setIfInBounds_toArray, List.set_cons_zero, List.set_cons_succ])
  refine wpAnyXIn_one (j := 9) (by decide +kernel) rfl (fun K' hK => ?_)
  go_simp
  refine hK.out _ _ (SX.one trivial (by kernel_rfl)) ?_
  clear hK K'
  (try simp only [Act.put, List.setIfInBounds_toArray, List.set_cons_zero, List.set_cons_succ])
  refine wpAnyXIn_done (by decide +kernel) ?_
  have hkeep : ∀ (j : Nat) (ob : Obj), W.heap[j]? = some ob -> j ≠ w.heap.size -> (¬ PtrTy ob ∨ j = w.heap.size + 1) -> (w1.setCell ⟨w.heap.size, 0, none⟩ (.slice (some ⟨g', 0, none⟩) (due.length + pre.length + 1) cap')).heap[j]? = some ob := fun j ob qq hne hs => by
   have hjl := lt_of_block qq
   rw [Below.heap_setCell _ _ _ _ (show j ≠ w.heap.size from hne), hgrow.block j (by rw [e1]; omega) (fun e => ?_)]
   ·exact (hB7.block _ (by omega)).trans ((hX.block _ hjl).trans qq)
   ·rcases hs with hs | rfl
    ·rcases c2.2 with ⟨h0, _⟩ | ⟨g, cap, cur, h0, _, h2, _⟩
     ·rw [h0] at e
      simp [Value.ownBlock] at e
     ·rw [h0] at e
      simp [Value.ownBlock] at e
      subst e
      rw [h2] at qq
      cases qq
      exact hs ⟨_, _, rfl⟩
    ·exact c2o e.symm
  have hns : ∀ cs fz, ¬ PtrTy (.cells cs 92 fz) := fun cs fz ⟨_, _, e⟩ => by simp at e
  have hns2 : ∀ cs fz, ¬ PtrTy (.cells cs 30 fz) := fun cs fz ⟨_, _, e⟩ => by simp at e
  have hk0 : KeepsOthers W X := ⟨by omega, fun k ob hk _ => (hX.block k (lt_of_block hk)).trans hk⟩
  refine ⟨(hk0.trans hk2).from _, ⟨(hX.mono hNW).trans hb2, ?_, fun j ob hj qq hs => hkeep j ob qq (by omega) (.inl hs)⟩, ⟨⟨⟨_, hv2', ?_, ?_⟩, ?_, ?_⟩, hBX.trans hb2, hF.1.trans ((hX.mono (Nat.zero_le _)).trans (hb2.mono (Nat.zero_le _))), fun j ob qq hs => hkeep j ob (hF.2 j ob qq hs) (by have := lt_of_block qq; omega) (.inl hs)⟩⟩
  ·rw [hkeep _ _ c4 (by omega) (.inl (hns2 _ _))]
   exact c4.symm
  ·have e3 : ptC (due ++ (pre ++ [x]).map fun x => kpA o x.1) = ptC (due ++ pre.map fun x => kpA o x.1) ++ [.pointer (some ⟨b, off + x.1 * 4, none⟩)] := by
    rw [List.map_append, List.map_singleton, <- List.append_assoc, ptC_app, HKP.out]
   rw [e3]
   simpa [Nat.add_assoc] using hr2
  ·rcases hmv with e | e
   ·rw [e]; exact c2o
   ·rw [e]
    simp only [ne_eq, Option.some.injEq]
    have := d3.lt
    rw [e1]
    omega
  ·exact hkeep _ _ c3 (by omega) (.inr rfl)
  ·have h4 := hkeep _ _ c4 (by omega) (.inl (hns2 _ _))
   rw [HKA.out] at h4
   exact h4
 case done =>
  rintro D ys W hD rfl ⟨⟨⟨v1, c1, c2, c2o⟩, c3, c4⟩, hB, hF⟩ hK
  have hcb := c1.cell
  have hyl : (bkQ o.kids.length).length = o.kids.length := bkQ_len _
  gi_wp2
  refine ⟨by simp, .inl ⟨_, _, rfl, run_takeDeferred hK, ?_⟩⟩
  exact ⟨_, results_tmp rfl _ _ _, v1, rfl, by simpa using ownsRow_putObj c2 _ hK rfl, hB.trans (belowK_b (w := w) hN W D _ _ (by omega) hK rfl rfl), fun j o q hs => (World.putObj_heap_other (by have := lt_of_block q; omega)).trans (hF.2 j o q hs)⟩
 case stop =>
  rintro D c pre W _ _ h _
  exact h.elim
open Go.RowKit
section
variable {w w' : World} {N : Nat} {v : Value} {l : List (Nat × Nat)}
theorem ptr_last {x : Nat × Nat} (h : w.ownsRow N 64 1 v (l ++ [x]).length (ptC (l ++ [x]))) : ∃ g cap, v = .slice (some ⟨g, 0, none⟩) (l.length + 1) cap /\ l.length + 1 <= cap /\ w.cell? ⟨g, l.length, none⟩ = some (.pointer (some ⟨x.1, x.2, none⟩)) /\ w.ownsRow N 64 1 (.slice (some ⟨g, 0, none⟩) l.length cap) l.length (ptC l) := by
 rcases h.2 with ⟨-, h0⟩ | ⟨g, cap, cur, rfl, h1, h2, h3, h4, h5, h6⟩
 ·simp at h0
 ·simp only [List.length_append, List.length_singleton, Nat.mul_one] at h3 h5 h6 ⊢
  have e : (ptC l ++ [Value.pointer (some ⟨x.1, x.2, none⟩)])[l.length]? = some (.pointer (some ⟨x.1, x.2, none⟩)) := by
   rw [List.getElem?_append_right (by rw [ptC_len]; exact Nat.le_refl _), ptC_len, Nat.sub_self]
   rfl
  rw [ptC_app] at h6
  refine ⟨g, cap, rfl, h3, ?_, by rw [ptC_len, Nat.mul_one], .inr ⟨g, cap, cur, rfl, h1, h2, by omega, h4, by rw [h5, Nat.mul_one], ?_⟩⟩
  ·rw [cellq_any h2, <- Array.getElem?_toList, <- e, <- h6, List.getElem?_take, if_pos (by omega)]
  ·have e2 : cur.toList.take (l.length * 1) = (cur.toList.take (l.length + 1)).take l.length := by
    rw [List.take_take]; congr 1; omega
   rw [e2, h6, List.take_left' (ptC_len l)]
theorem ptr_one {g : Nat} {x : Nat × Nat} (hg : N <= g) (h : w.heap[g]? = some (.cells #[.pointer (some ⟨x.1, x.2, none⟩)] 64)) : w.ownsRow N 64 1 (.slice (some ⟨g, 0, none⟩) 1 1) [x].length (ptC [x]) :=
 ⟨rfl, .inr ⟨g, 1, _, rfl, hg, h, Nat.le_refl _, by decide, rfl, rfl⟩⟩
theorem slice_toP (b lc len i : Nat) (hi : i <= lc) (w : World) : (Instr.slice 92 (.slice (some ⟨b, 0, none⟩) len lc) none (some (.int .i64 (i : Int))) none).run Tryz.prog w = .ok (.slice (some ⟨b, 0, none⟩) i lc) w := by
 obtain ⟨i0, hinf, _, hz1, _⟩ := infoPtr_parts
 have hu : Tryz.prog.underlying 92 = some (.slice (Tryz.prog.elem 92)) := by kernel_rfl
 have he : Tryz.prog.elem 92 = 64 := by kernel_rfl
 have := run_slice_h (P := Tryz.prog) (w := w) 92 (some ⟨b, 0, none⟩) len lc hu .i64 (i : Int) (by omega) (by omega)
 rw [this, he]
 simp [sizeOf, typeInfo, hinf, hz1]
 unfold sliced
 split <;> simp [add_none]
end
set_option linter.unusedSimpArgs false in
set_option maxRecDepth 100000 in
set_option maxHeartbeats 4000000 in
theorem alike_W {p q p' q' : Nat} {a b : TV} {w : World} (ha : TBx w p q a) (hb : TBx w p' q' b) (hs : sgV a = sgV b) : Calls Tryz.prog 46 #[.pointer (some ⟨p, q, none⟩), .pointer (some ⟨p', q', none⟩)] w fun e w' => e = .returned (.bool true) /\ Below w.heap.size w w' := by
 obtain ⟨h1, h2, h3, h4⟩ := sg_parts hs
 obtain ⟨-, a0, a1, a2, a3⟩ := ha
 obtain ⟨-, b0, b1, b2, b3⟩ := hb
 rw [<- h1] at b0
 rw [<- h2] at b1
 rw [<- h3] at b2
 rw [<- h4] at b3
 clear h1 h2 h3 h4 hs
 have HBW : Hid (∀ n, Below w.heap.size w (w.drewN n)) := fun n => below_drewN (Below.refl _ _) n
 generalize a.prod = tp at *
 generalize a.kind = tk at *
 generalize a.tx = tx at *
 generalize a.kids.length = tn at *
 generalize a.ka = ta at *
 generalize a.kc = tc at *
 generalize b.ka = tb at *
 generalize b.kc = td at *
 go_enter Tryz.func46, Tryz.ntmps46
 go_upto_region 1 with fail
 go_quiet (fail)
 obtain ⟨wd, hwd⟩ : ∃ wd : World, wd = w.drewN nq := ⟨_, rfl⟩
 have HD : Hid (Below w.heap.size w wd) := by rw [hwd]; exact HBW.out nq
 rw [<- hwd]
 go_wp2
 go_ret
 exact ⟨by simp, HD.out⟩
theorem ownsRow_set {w : World} {N k n j : Nat} {τ t : TypeId} {v : Value} {xs : List Value} {Cc : Array Value} {fz : Nat × Nat} (h : w.ownsRow N τ k v n xs) (hj : w.heap[j]? = some (.cells Cc t fz)) (ht : t ≠ τ) (o : Nat) (u : Value) : (w.setCell ⟨j, o, none⟩ u).ownsRow N τ k v n xs := by
 refine ⟨h.1, ?_⟩
 rcases h.2 with q | ⟨g, cap, cur, rfl, h1, h2, h3⟩
 ·exact .inl q
 ·refine .inr ⟨g, cap, cur, rfl, h1, (Below.heap_setCell _ _ _ _ fun e => ?_).trans h2, h3⟩
  have e : g = j := e
  rw [e, hj] at h2
  simp only [Option.some.injEq, Obj.cells.injEq] at h2
  exact ht h2.2.1
theorem on_setQ {w w1 : World} {N j : Nat} {Cc : Array Value} {t : TypeId} {fz : Nat × Nat} (h : OnStp N w1 w) (hj : w.heap[j]? = some (.cells Cc t fz)) (ht : (t == 102) = false) (o : Nat) (u : Value) : OnStp N w1 (w.setCell ⟨j, o, none⟩ u) := by
 refine h.trans ⟨by simp [World.setCell], fun k ob hk _ hs => ?_⟩
 refine (Below.heap_setCell _ _ _ _ fun e => ?_).trans hk
 have e : k = j := e
 rw [e, hj] at hk
 cases hk
 exact not_stp ht hs
theorem ownsRow_sl {w : World} {N k n : Nat} {τ : TypeId} {v : Value} {xs : List Value} (h : w.ownsRow N τ k v n xs) : ∃ a c, v = .slice a n c := by
 rcases h.2 with ⟨rfl, e⟩ | ⟨g, cap, cur, rfl, _⟩
 ·exact ⟨none, 0, by rw [e]⟩
 ·exact ⟨_, _, rfl⟩
structure SmS (w0 : World) (a : TV) (ob sb : Nat) (D : List EV) (w : World) : Prop where
 bel : Below w0.heap.size w0 w
 no : w0.heap.size <= ob
 ns : w0.heap.size <= sb
 sx : w.heap[sb]? = some (.cells #[.bool true] 4)
 bx : ∃ v, ∃ os : List (Nat × Nat × TV), w.heap[ob]? = some (.cells #[v] 92) /\ w.ownsRow w0.heap.size 64 1 v (os.map fun x => (x.1, x.2.1)).length (ptC (os.map fun x => (x.1, x.2.1))) /\ (∀ x ∈ os, TBx w0 x.1 x.2.1 x.2.2 /\ TAt w0 x.2.2) /\ (os.reverse.flatMap fun x => preT x.2.2).map sgV = ((preT a).drop (enE D).length).map sgV
section
variable {w0 w w' : World} {a : TV} {ob sb : Nat} {D : List EV}
theorem SmS.still (h : SmS w0 a ob sb D w) (hn : NoStp w0.heap.size w w') : SmS w0 a ob sb D w' := by
 obtain ⟨v, os, h1, h2, h3, h4⟩ := h.bx
 refine ⟨hn.bel h.bel, h.no, h.ns, hn.keep _ _ h.sx (fun ⟨_, s⟩ => not_stp (by decide) s), v, os, hn.keep _ _ h1 (fun ⟨_, s⟩ => not_stp (by decide) s), ⟨h2.1, ?_⟩, h3, h4⟩
 rcases h2.2 with q | ⟨g, cap, cur, rfl, k1, k2, k3⟩
 ·exact .inl q
 ·exact .inr ⟨g, cap, cur, rfl, k1, hn.keep _ _ k2 (fun ⟨_, s⟩ => not_stp (by decide) s), k3⟩
theorem SmS.leave (h : SmS w0 a ob sb D w) (p q : Nat) (t : TV) : SmS w0 a ob sb (D ++ [⟨false, p, q, t⟩]) w := by
 obtain ⟨v, os, h1, h2, h3, h4⟩ := h.bx
 exact ⟨h.bel, h.no, h.ns, h.sx, v, os, h1, h2, h3, by rw [enE_app, enE_out, List.append_nil]; exact h4⟩
theorem fin_kids (l : List TV) : (List.finRange l.length).map (fun i => l.getD i.1 TV.none) = l := by
 apply List.ext_getElem
 ·simp
 ·intro i h1 h2
  simp [List.getD]
theorem bkQ_kids (o : TV) : ((bkQ o.kids.length).map fun i => ((kpA o i.1).1, (kpA o i.1).2, o.kids.getD i.1 TV.none)).reverse.flatMap (fun x : Nat × Nat × TV => preT x.2.2) = preL o.kids := by
 unfold bkQ preL
 rw [List.map_reverse, List.reverse_reverse, List.flatMap_map]
 conv => rhs; rw [<- fin_kids o.kids, List.flatMap_map]
theorem pre_len (t : TV) : (preT t).length = szT t := by
 induction t using TV.ind with
 | _ t ih =>
  have e : ∀ l : List TV, (∀ k ∈ l, (preT k).length = szT k) -> (preL l).length = szL l := fun l => by
   induction l with
   | nil => intro _; rfl
   | cons x l il =>
    intro h
    show (preT x ++ preL l).length = _
    rw [List.length_append, h x (List.mem_cons_self ..), il fun k hk => h k (List.mem_cons_of_mem _ hk), szL_cons]
  rw [preT_eq, List.length_cons, szT_eq, e _ ih]
theorem ent_same1 : EntW 45 := fun _ _ => by simp
set_option linter.unusedSimpArgs false in
set_option maxRecDepth 100000 in
set_option maxHeartbeats 4000000 in
theorem same1_W {p q : Nat} {x : TV} {R : List TV} (h : SmS w0 a ob sb D w) (hx : TBx w0 p q x) (hp : enE D ++ x :: R = preT a) (hsz : szT a <= 100000000) : Calls Tryz.prog 45 #[.pointer (some ⟨p, q, none⟩), .pointer (some ⟨ob, 0, none⟩), .pointer (some ⟨sb, 0, none⟩)] w fun e w' => e = .returned (.bool true) /\ OnStp w0.heap.size w w' /\ SmS w0 a ob sb (D ++ [⟨true, p, q, x⟩]) w' := by
 obtain ⟨v, os, h1, h2, h3, h4⟩ := h.bx
 have hdr : (preT a).drop (enE D).length = x :: R := by rw [<- hp, List.drop_left]
 rw [hdr] at h4
 obtain ⟨os', o, rfl⟩ : ∃ os' o, os = os' ++ [o] := by
  have : os ≠ [] := fun e => by rw [e] at h4; simp at h4
  exact ⟨os.dropLast, os.getLast this, (List.dropLast_concat_getLast this).symm⟩
 obtain ⟨po, qo, o⟩ := o
 rw [List.reverse_append, List.reverse_singleton, List.singleton_append, List.flatMap_cons] at h4
 dsimp only at h4
 rw [preT_eq, List.cons_append, List.map_cons, List.map_cons] at h4
 simp only [List.cons.injEq] at h4
 obtain ⟨hsg, h4⟩ := h4
 obtain ⟨hTo, hAo⟩ := h3 (po, qo, o) (by simp)
 dsimp only at hTo hAo
 rw [List.map_append, List.map_singleton] at h2
 dsimp only at h2
 obtain ⟨g, cap, rfl, hcap, hcell, hpre⟩ := ptr_last h2
 have hosl : (os'.map fun x => (x.1, x.2.1)).length = os'.length := by simp
 have hbel := h.bel
 have hlen : os'.length + o.kids.length <= 1000000000 := by
  have e1 := congrArg List.length h4
  rw [List.length_map, List.length_map, List.length_append] at e1
  have e2 := congrArg List.length hp
  rw [List.length_append, List.length_cons, pre_len] at e2
  have e3 : o.kids.length <= (preL o.kids).length := by
   have q1 := pre_len o
   rw [preT_eq, List.length_cons, szT_eq] at q1
   have q2 := szL_len o.kids
   omega
  have e4 : os'.length <= (os'.reverse.flatMap fun x => preT x.2.2).length := by
   rw [<- List.length_reverse]
   generalize os'.reverse = z
   induction z with
   | nil => exact Nat.zero_le _
   | cons y z iz =>
    rw [List.flatMap_cons, List.length_append, List.length_cons, pre_len, szT_eq]
    omega
  omega
 have HT : ∀ W', Below w0.heap.size w0 W' -> TBx W' po qo o /\ KRow W' o.ka o.kids := fun W' hb => ⟨hTo.later hb, hAo.row.later hb⟩
 have CA : Hid (Calls Tryz.prog 46 #[.pointer (some ⟨p, q, none⟩), .pointer (some ⟨po, qo, none⟩)] w fun e w' => e = .returned (.bool true) /\ Below w.heap.size w w') := alike_W (hx.later hbel) (HT w hbel).1 hsg.symm
 have CP : Hid (∀ w', Below w0.heap.size w0 w' -> w'.ownsRow w0.heap.size 64 1 (.slice (some ⟨g, 0, none⟩) os'.length cap) (os'.map fun x => (x.1, x.2.1)).length (ptC (os'.map fun x => (x.1, x.2.1))) -> Calls Tryz.prog 47 #[.slice (some ⟨g, 0, none⟩) os'.length cap, .pointer (some ⟨po, qo, none⟩)] w' fun e w'' => ∃ va vn vc, e = .returned (.slice va vn vc) /\ w''.ownsRow w0.heap.size 64 1 (.slice va vn vc) ((os'.map fun x => (x.1, x.2.1)) ++ (bkQ o.kids.length).map fun x => kpA o x.1).length (ptC ((os'.map fun x => (x.1, x.2.1)) ++ (bkQ o.kids.length).map fun x => kpA o x.1)) /\ Below w0.heap.size w' w'' /\ FrQ w' w'') := fun w' hb hv => (pushKids_W w0.heap.size _ _ po qo o w' hb.size hv (fun W' hW => HT W' (hb.trans hW)) (by rw [hosl]; exact hlen)).mono fun e w'' ⟨v', e1, e2, e3⟩ => by
  obtain ⟨a, c, rfl⟩ := ownsRow_sl e2
  exact ⟨_, _, _, e1, e2, e3⟩
 have FIN : Hid (∀ v' w', Below w0.heap.size w0 w' -> w'.heap[sb]? = some (.cells #[.bool true] 4) -> w'.heap[ob]? = some (.cells #[v'] 92) -> w'.ownsRow w0.heap.size 64 1 v' ((os'.map fun x => (x.1, x.2.1)) ++ (bkQ o.kids.length).map fun x => kpA o x.1).length (ptC ((os'.map fun x => (x.1, x.2.1)) ++ (bkQ o.kids.length).map fun x => kpA o x.1)) -> SmS w0 a ob sb (D ++ [⟨true, p, q, x⟩]) w') := fun v' w' hb hs ho hv => by
  have em : ((os' ++ (bkQ o.kids.length).map fun i => ((kpA o i.1).1, (kpA o i.1).2, o.kids.getD i.1 TV.none)).map fun x => (x.1, x.2.1)) = (os'.map fun x => (x.1, x.2.1)) ++ (bkQ o.kids.length).map fun x => kpA o x.1 := by
   rw [List.map_append, List.map_map]
   rfl
  refine ⟨hb, h.no, h.ns, hs, v', os' ++ (bkQ o.kids.length).map fun i => ((kpA o i.1).1, (kpA o i.1).2, o.kids.getD i.1 TV.none), ho, by rw [em]; exact hv, fun y hy => ?_, ?_⟩
  ·rcases List.mem_append.1 hy with hy | hy
   ·exact h3 y (by simp [hy])
   ·obtain ⟨i, -, rfl⟩ := List.mem_map.1 hy
    obtain ⟨b, off, hka, hkb⟩ := krow_kid hAo.row i.2
    have hk := kpA_at hka i.1
    dsimp only
    rw [hk]
    have e : o.kids.getD i.1 TV.none = o.kids[i.1] := by simp [List.getD]
    rw [e]
    exact ⟨hkb, hAo.kid _ (List.getElem_mem _)⟩
  ·rw [List.reverse_append, List.flatMap_append, bkQ_kids, h4, enE_app, enE_in, List.length_append, List.length_singleton, <- List.drop_drop, hdr]
   rfl
 have x0 : w.cell? ⟨ob, 0, none⟩ = some (.slice (some ⟨g, 0, none⟩) (os'.length + 1) cap) := by rw [cellq_any h1, hosl]; rfl
 have f0 : w.frozen? ⟨ob, 0, none⟩ = false := by simp [World.frozen?, h1]
 have y0 : w.frozen? ⟨sb, 0, none⟩ = false := by simp [World.frozen?, h.sx]
 rw [hosl] at hcell hcap
 have HS : Hid (SmS w0 a ob sb D w) := h
 have H1 : Hid (w.heap[ob]? = some (.cells #[.slice (some ⟨g, 0, none⟩) (os'.length + 1) cap] 92)) := by show _ = _; rw [h1, hosl]
 have HPR : Hid (w.ownsRow w0.heap.size 64 1 (.slice (some ⟨g, 0, none⟩) os'.length cap) (os'.map fun x => (x.1, x.2.1)).length (ptC (os'.map fun x => (x.1, x.2.1)))) := by show World.ownsRow _ _ _ _ _ _ _; have hh := hpre; rw [hosl] at hh ⊢; exact hh
 have hsl : ∀ w', (Instr.slice 92 (.slice (some ⟨g, 0, none⟩) (os'.length + 1) cap) none (some (.int .i64 (os'.length : Int))) none).run Tryz.prog w' = .ok (.slice (some ⟨g, 0, none⟩) os'.length cap) w' := fun w' => slice_toP g cap _ _ (by omega) w'
 have wr1 : IntKind.i64.wrap (((os'.length + 1 : Nat) : Int) - 1) = (os'.length : Int) := by
  rw [show (((os'.length + 1 : Nat) : Int) - 1) = (os'.length : Int) by omega]
  exact IntWalk.i64_in _ ⟨by omega, by omega⟩
 have wr2 : IntKind.i64.wrap ((os'.length : Int) + 1 - 1) = (os'.length : Int) := by
  rw [show ((os'.length : Int) + 1 - 1) = (os'.length : Int) by omega]
  exact IntWalk.i64_in _ ⟨by omega, by omega⟩
 have wr3 : IntKind.i64.wrap (os'.length : Int) = (os'.length : Int) := IntWalk.i64_in _ ⟨by omega, by omega⟩
 clear wr1 wr2
 clear h h1 h2 h3 h4 hx hp hdr hsg hTo hAo hpre HT hlen hcap hosl hbel
 generalize os'.length = ol at *
 go_enter Tryz.func45, Tryz.ntmps45
 go_upto_region 3 with (go_at_call 46; refine CA.out.mono ?_; rintro e w1 ⟨rfl, b1⟩; have S1 : Hid (SmS w0 a ob sb D w1 /\ Below w.heap.size w w1) := ⟨HS.out.still (below_noStp b1), b1⟩; clear b1 x0 f0 y0 CA hcell; have y1 : w1.frozen? ⟨sb, 0, none⟩ = false := (by simp [World.frozen?, S1.out.1.sx]); have y2 : w1.cell? ⟨sb, 0, none⟩ = some (.bool true) := (cellq_any S1.out.1.sx).trans rfl)
 have hne : sb ≠ ob := fun e => by
  obtain ⟨v, os, k1, -⟩ := HS.out.bx
  have k2 := HS.out.sx
  rw [e, k1] at k2
  simp at k2
 refine wp_world (fun w' => Below w0.heap.size w0 w' /\ w'.heap[sb]? = some (.cells #[.bool true] 4) /\ w'.heap[ob]? = some (.cells #[.slice (some ⟨g, 0, none⟩) (ol + 1) cap] 92) /\ w'.ownsRow w0.heap.size 64 1 (.slice (some ⟨g, 0, none⟩) ol cap) (os'.map fun x => (x.1, x.2.1)).length (ptC (os'.map fun x => (x.1, x.2.1))) /\ OnStp w0.heap.size w w') ⟨S1.out.1.bel.setCell (p := ⟨sb, 0, none⟩) HS.out.ns _, heap_set S1.out.1.sx _ _, (Below.heap_setCell _ _ _ _ hne.symm).trans ((S1.out.2.block _ (lt_of_block H1.out)).trans H1.out), ownsRow_set (ownsRow_bel HPR.out S1.out.2) S1.out.1.sx (by decide) 0 _, on_setQ (below_onStp S1.out.2) S1.out.1.sx (by decide) 0 _⟩ fun w2 h2 => ?_
 have S2 : Hid _ := h2
 have x2 : w2.cell? ⟨ob, 0, none⟩ = some (.slice (some ⟨g, 0, none⟩) (ol + 1) cap) := (cellq_any h2.2.2.1).trans rfl
 clear h2 S1 y1 y2 H1 HPR
 have S3F : Hid (∀ (w3 : World) (v' : Value), w3.ownsRow w0.heap.size 64 1 v' ((os'.map fun x => (x.1, x.2.1)) ++ (bkQ o.kids.length).map fun x => kpA o x.1).length (ptC ((os'.map fun x => (x.1, x.2.1)) ++ (bkQ o.kids.length).map fun x => kpA o x.1)) -> Below w0.heap.size w2 w3 -> FrQ w2 w3 -> Hid (Below w0.heap.size w0 w3 /\ w3.heap[sb]? = some (.cells #[.bool true] 4) /\ w3.heap[ob]? = some (.cells #[.slice (some ⟨g, 0, none⟩) (ol + 1) cap] 92) /\ w3.ownsRow w0.heap.size 64 1 v' ((os'.map fun x => (x.1, x.2.1)) ++ (bkQ o.kids.length).map fun x => kpA o x.1).length (ptC ((os'.map fun x => (x.1, x.2.1)) ++ (bkQ o.kids.length).map fun x => kpA o x.1)) /\ OnStp w0.heap.size w w3)) := fun w3 v' o3 b3 f3 => ⟨S2.out.1.trans b3, f3 _ _ S2.out.2.1 (fun ⟨_, _, e⟩ => by simp at e), f3 _ _ S2.out.2.2.1 (fun ⟨_, _, e⟩ => by simp at e), o3, S2.out.2.2.2.2.trans ⟨b3.size, fun j oo hj _ ⟨cs, fz, e⟩ => f3 _ _ hj (fun ⟨_, _, e'⟩ => by rw [e] at e'; simp at e')⟩⟩
 go_upto_region 4 with (go_at_call 47; refine (CP.out _ S2.out.1 S2.out.2.2.2.1).mono ?_; rintro e w3 ⟨va, vn, vc, rfl, o3, b3, f3⟩; have S3 : Hid (Below w0.heap.size w0 w3 /\ w3.heap[sb]? = some (.cells #[.bool true] 4) /\ w3.heap[ob]? = some (.cells #[.slice (some ⟨g, 0, none⟩) (ol + 1) cap] 92) /\ w3.ownsRow w0.heap.size 64 1 (.slice va vn vc) ((os'.map fun x => (x.1, x.2.1)) ++ (bkQ o.kids.length).map fun x => kpA o x.1).length (ptC ((os'.map fun x => (x.1, x.2.1)) ++ (bkQ o.kids.length).map fun x => kpA o x.1)) /\ OnStp w0.heap.size w w3) := S3F.out _ _ o3 b3 f3; clear o3 b3 f3 x2; have f3 : w3.frozen? ⟨ob, 0, none⟩ = false := (by simp [World.frozen?, S3.out.2.2.1]); have g3 : w3.cell? ⟨ob, 0, none⟩ = some (.slice (some ⟨g, 0, none⟩) (ol + 1) cap) := (cellq_any S3.out.2.2.1).trans rfl)
 refine wp_world (fun w' => SmS w0 a ob sb (D ++ [⟨true, p, q, x⟩]) w' /\ OnStp w0.heap.size w w') ⟨FIN.out _ _ (S3.out.1.setCell (p := ⟨ob, 0, none⟩) HS.out.no _) ((Below.heap_setCell _ _ _ _ hne).trans S3.out.2.1) (heap_set S3.out.2.2.1 _ _) (ownsRow_set S3.out.2.2.2.1 S3.out.2.2.1 (by decide) 0 _), on_setQ S3.out.2.2.2.2 S3.out.2.2.1 (by decide) 0 _⟩ fun w4 h4 => ?_
 have S4 : Hid (SmS w0 a ob sb (D ++ [⟨true, p, q, x⟩]) w4 /\ OnStp w0.heap.size w w4) := h4
 have x4 : w4.cell? ⟨sb, 0, none⟩ = some (.bool true) := (cellq_any h4.1.sx).trans rfl
 clear h4 S3 f3 g3 S2 CP FIN S3F
 go_wp2
 go_ret
 exact ⟨rfl, S4.out.2, S4.out.1⟩
end
set_option linter.unusedSimpArgs false in
set_option maxRecDepth 100000 in
set_option maxHeartbeats 4000000 in
theorem same_W {a b : TV} {w : World} (ha : TAt w a) (hb : TAt w b) (hs : samV a b) (hsz : szT a <= 100000000) : Calls Tryz.prog 15 #[a.val, b.val] w fun e w' => e = .returned (.bool true) /\ Below w.heap.size w w' := by
 obtain ⟨w0, hw0⟩ : ∃ w0 : World, w0 = (w.alloc (tBox a)).alloc (tBox b) := ⟨_, rfl⟩
 obtain ⟨k1, k2, k3⟩ := two_allocT w (tBox a) (tBox b)
 rw [<- hw0] at k1 k2 k3
 have hTa : TBx w0 w.heap.size 0 a := by
  obtain ⟨x0, x1, x2, x3⟩ := tb_cells k2
  exact ⟨lt_of_block k2, x0, x1, x2, x3⟩
 have hTb : TBx w0 (w.heap.size + 1) 0 b := by
  obtain ⟨x0, x1, x2, x3⟩ := tb_cells k3
  exact ⟨lt_of_block k3, x0, x1, x2, x3⟩
 have HW0 : Hid (w0 = (w.alloc (tBox a)).alloc (tBox b) /\ Below w.heap.size w w0) := ⟨hw0, k1⟩
 have HSP : (preT b).map sgV = (preT a).map sgV := (sam_pre a b hs).symm
 have CWK : Hid (∀ w1 ob sb, SmS w0 a ob sb [] w1 -> Calls Tryz.prog 25 #[.pointer (some ⟨w.heap.size, 0, none⟩), fnV 45 #[.pointer (some ⟨ob, 0, none⟩), .pointer (some ⟨sb, 0, none⟩)]] w1 fun e w' => e = .returned (.tuple #[]) /\ SmS w0 a ob sb (evT w.heap.size 0 a) w') := fun w1 ob sb h1 => by
  refine (walk_R (St := fun D w' => SmS w0 a ob sb D w') (Fin := fun _ => False) ⟨ent_same1, hTa, ha.later k1, hsz, fun D w w' h hn => h.still hn, fun D w h => h.bel, fun D p q x R hD hT w2 h2 => ?_, fun D p q x R w2 _ h2 => h2.leave p q x⟩ w1 h1).mono fun e w' ⟨e1, e2⟩ => ⟨e1, by
   rcases e2 with e2 | e2
   ·exact e2
   ·exact e2.elim⟩
  have hpre : enE D ++ x :: enE R = preT a := by
   have := congrArg enE hD
   rw [ev_pre, enE_app, <- List.singleton_append, enE_app, enE_in] at this
   exact this
  exact (same1_W h2 hT hpre hsz).mono fun e w' ⟨e1, e2, e3⟩ => ⟨true, e1, e2, fun _ => e3, fun q => by cases q⟩
 have HST : Hid (∀ w', w' = (((w0.alloc (.cells #[.bool true] 4)).alloc (.cells #[.pointer (some ⟨w.heap.size + 1, 0, none⟩)] 64)).alloc (.cells #[.slice (some ⟨w0.heap.size + 1, 0, none⟩) 1 1] 92)) -> SmS w0 a (w0.heap.size + 1 + 1) w0.heap.size [] w') := fun w' he => by
  have b1 := below_alloc w0 (.cells #[.bool true] 4)
  have n1 := heap_alloc_new w0 (.cells #[.bool true] 4)
  have z1 : (w0.alloc (.cells #[.bool true] 4)).heap.size = w0.heap.size + 1 := by simp
  generalize w0.alloc (.cells #[.bool true] 4) = u1 at *
  have b2 := below_alloc u1 (.cells #[.pointer (some ⟨w.heap.size + 1, 0, none⟩)] 64)
  have n2 := heap_alloc_new u1 (.cells #[.pointer (some ⟨w.heap.size + 1, 0, none⟩)] 64)
  have z2 : (u1.alloc (.cells #[.pointer (some ⟨w.heap.size + 1, 0, none⟩)] 64)).heap.size = w0.heap.size + 1 + 1 := by simp [z1]
  generalize u1.alloc (.cells #[.pointer (some ⟨w.heap.size + 1, 0, none⟩)] 64) = u2 at *
  have b3 := below_alloc u2 (.cells #[.slice (some ⟨w0.heap.size + 1, 0, none⟩) 1 1] 92)
  have n3 := heap_alloc_new u2 (.cells #[.slice (some ⟨w0.heap.size + 1, 0, none⟩) 1 1] 92)
  rw [<- he] at b3 n3
  rw [z1] at n2
  rw [z2] at n3
  have B13 := b2.trans (b3.mono b2.size)
  have B03 := b1.trans (B13.mono b1.size)
  refine ⟨B03, by omega, Nat.le_refl _, (B13.block _ (lt_of_block n1)).trans n1, _, [(w.heap.size + 1, 0, b)], n3, ptr_one (by omega) ((b3.block _ (lt_of_block n2)).trans n2), fun y hy => ?_, ?_⟩
  ·simp only [List.mem_cons, List.not_mem_nil, or_false] at hy
   subst hy
   exact ⟨hTb, hb.later k1⟩
  ·simpa [enE] using HSP
 clear ha hb hs hsz hTa hTb k1 k2 k3 HSP hw0
 go_enter Tryz.func15, Tryz.ntmps15
 go_upto_region 1 with fail
 refine wp_world (fun w' => w' = w0) HW0.out.1.symm fun w1 h1 => ?_
 obtain rfl := h1
 go_upto_region 3 with fail
 refine wp_world (fun w' => SmS w1 a (w1.heap.size + 1 + 1) w1.heap.size [] w') (HST.out _ rfl) fun w3 h3 => ?_
 have H3 : Hid (SmS w1 a (w1.heap.size + 1 + 1) w1.heap.size [] w3) := h3
 have HBB : Hid (∀ w', Below w1.heap.size w1 w' -> Below w.heap.size w w') := fun w' hb => HW0.out.2.trans (hb.mono HW0.out.2.size)
 clear h3 HST HW0
 generalize w1.heap.size + 1 + 1 = ob at *
 obtain ⟨sb, hsb⟩ : ∃ sb, sb = w1.heap.size := ⟨_, rfl⟩
 rw [<- hsb]
 rw [<- hsb] at H3
 clear hsb
 go_wp2_with (go_at_call 25; refine (CWK.out _ _ _ H3.out).mono ?_; rintro e w4 ⟨rfl, h4⟩; have H4 : Hid (SmS w1 a ob sb (evT w.heap.size 0 a) w4) := h4; clear h4 H3; have x4 : w4.cell? ⟨sb, 0, none⟩ = some (.bool true) := (cellq_any H4.out.sx).trans rfl)
 go_ret
 exact ⟨rfl, HBB.out _ H4.out.bel⟩
end Go.Proofs.YtobhemaikomdaaaGreatDoor
