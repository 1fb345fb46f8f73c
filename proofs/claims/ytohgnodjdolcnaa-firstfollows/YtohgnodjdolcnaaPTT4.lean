import Derived.Test.YtohgnodjdolcnaaPTT3
namespace Go.Proofs.Ytohgnodjdolcnaa
set_option linter.unusedVariables false
set_option maxRecDepth 100000
set_option maxHeartbeats 16000000
open Go.RowKit
def flCells (x : SP) : List Value := [.int .i64 x.t.prod, .int .i64 x.t.kind, .string x.t.tx, .int .i64 (x.t.kids.length : Int)]
theorem rkFlat : RK 62 59 4 flCells := by
 refine ⟨Try.underlying59, ?_, by decide, fun _ => rfl, fun x u hu => ?_⟩
 ·have h : (Try.prog.info? 62).map (fun i => (i.zero, i.size, i.bytes)) = some (some (.agg #[.int .i64 0, .int .i64 0, .string ByteArray.empty, .int .i64 0]), 4, 40) := by kernel_rfl
  cases e : Try.prog.info? 62 with
  | none => rw [e] at h; cases h
  | some i =>
   rw [e] at h
   simp at h
   exact ⟨i, _, rfl, h.1, h.2.1, by rw [h.2.2]; decide, rfl⟩
 ·simp [flCells] at hu
  rcases hu with rfl | rfl | rfl | rfl <;> rfl
abbrev FLo := RO 62 4 flCells
structure TFs (w : World) (P O : List SP) (vp vo : Value) (wr : World) : Prop where
 p : SPo wr vp P
 o : FLo wr vo O
 po : ∀ j, vp.ownBlock = some j -> w.heap.size < j
 oo : ∀ j, vo.ownBlock = some j -> w.heap.size < j
 ne : ∀ j, vp.ownBlock = some j -> vo.ownBlock ≠ some j
 big : w.heap.size < wr.heap.size
 bel : Below w.heap.size w wr
theorem TFs.any {w wr w' : World} {P O : List SP} {vp vo : Value} (h : TFs w P O vp vo wr) (hb : Below wr.heap.size wr w') : TFs w P O vp vo w' :=
 ⟨h.p.later hb, h.o.later hb, h.po, h.oo, h.ne, Nat.lt_of_lt_of_le h.big hb.size, h.bel.trans (hb.mono (Nat.le_of_lt h.big))⟩
theorem TFs.out {w wr w1 w4 : World} {P O : List SP} {vp vo v' : Value} {y : SP} (h : TFs w P O vp vo wr) (hb : Below wr.heap.size wr w1) (hg : Grew w1 w4 vo v') (hi : FLo w4 v' (O ++ [y])) : TFs w P (O ++ [y]) vp v' w4 := by
 have h1 := h.any hb
 have hbig := h1.big
 refine ⟨h1.p.kept (fun j hj => hg.grown.block j (h1.p.lt j hj) (fun e => h.ne j hj e.symm)), hi, h.po, fun j hj => hg.own (n := w.heap.size + 1) hbig h.oo j hj, fun j hj e => ?_, Nat.lt_of_lt_of_le hbig hg.grown.size, hg.below h1.bel (Nat.le_refl _) (fun j hj => Nat.le_of_lt (h.oo j hj))⟩
 rcases hg.moved with q | ⟨i, q, hq⟩
 ·exact h.ne j hj (by rw [<- q]; exact e)
 ·rw [q] at e
  have := h1.p.lt j hj
  simp at e
  omega
set_option linter.unusedSimpArgs false in
theorem flatten_S (t : TV) (w : World) (ht : TAt w t) (hsz : (plT 0 t).length <= 100000000) : Calls Try.prog 18 #[t.val] w fun e w' => ∃ a c, e = .returned (.slice a (plT 0 t).length c) /\ FLo w' (.slice a (plT 0 t).length c) (plT 0 t) /\ (∀ j, (Value.slice a (plT 0 t).length c).ownBlock = some j -> w.heap.size < j) /\ Below w.heap.size w w' := by
 have PC : Hid (Calls Try.prog 29 #[t.val] (w.alloc (tBox t)) fun e w' => ∃ a c, e = .returned (.slice a (plT 0 t).length c) /\ SPo w' (.slice a (plT 0 t).length c) (plT 0 t) /\ (∀ j, (Value.slice a (plT 0 t).length c).ownBlock = some j -> (w.alloc (tBox t)).heap.size < j) /\ Below (w.alloc (tBox t)).heap.size (w.alloc (tBox t)) w') := places_S t _ (ht.later (below_alloc _ _)) hsz
 have BA : Hid (Below w.heap.size w (w.alloc (tBox t))) := below_alloc _ _
 have HZ : Hid ((w.alloc (tBox t)).heap.size = w.heap.size + 1) := by simp [Hid]
 have HSZ : Hid ((plT 0 t).length <= 100000000) := hsz
 generalize plT 0 t = P at *
 clear ht
 go_enter Try.func18, Try.ntmps18
 go_wp2_with (go_at_call 29; refine PC.out.mono ?_; rintro e w1 ⟨pa, pc, rfl, hp1, ho1, b1⟩; have W1 : Hid (TFs w P [] (.slice pa P.length pc) (.slice none 0 0) w1) := ⟨hp1, RO.nil _, fun j hj => by have := ho1 j hj; have := HZ.out; omega, fun j hj => by simp [Value.ownBlock] at hj, fun j _ e => by simp [Value.ownBlock] at e, by have := b1.size; have := HZ.out; omega, BA.out.trans (b1.mono BA.out.size)⟩; clear hp1 ho1 b1)
 clear PC BA HZ
 go_loopw [3, 5] (fun vo z wr => ∃ k : Nat, k <= P.length /\ z = .int .i64 k /\ TFs w P (P.take k) (.slice pa P.length pc) vo wr) (fun _ z _ => P.length - (intOf z).toNat)
 case atStart => exact ⟨0, Nat.zero_le _, rfl, by rw [List.take_zero]; exact W1.out⟩
 case round =>
  clear W1
  obtain ⟨k, hk, rfl, hF⟩ := hrel
  obtain ⟨oa, oc, rfl, _⟩ := hF.o.len
  by_cases hlt : k < P.length
  ·have klt : (k : Int) < (P.length : Int) := by omega
   obtain ⟨b, c, hv, hc, hcell⟩ := RO.cell (f := spCells) (fun _ => rfl) hF.p hlt
   simp only [Value.slice.injEq, true_and] at hv
   obtain ⟨hpa, -⟩ := hv
   obtain ⟨x, hx⟩ : ∃ x, P[k] = x := ⟨_, rfl⟩
   have HSP : Hid (∀ w', SPo w' (.slice pa P.length pc) P -> (fun w' : World => w'.cell? ⟨b, k * 8, none⟩ = some (.int .i64 x.t.prod) /\ w'.cell? ⟨b, k * 8 + 1, none⟩ = some (.int .i64 x.t.kind) /\ w'.cell? ⟨b, k * 8 + 2, none⟩ = some (.string x.t.tx) /\ w'.cell? ⟨b, k * 8 + 3, none⟩ = some (.slice x.t.ka x.t.kids.length x.t.kc)) w') := fun w' h' => by
    obtain ⟨b', c', hv', -, hcell'⟩ := RO.cell (f := spCells) (fun _ => rfl) h' hlt
    simp only [Value.slice.injEq, true_and] at hv'
    obtain ⟨hpa', -⟩ := hv'
    rw [hpa] at hpa'
    simp only [Option.some.injEq, Addr.mk.injEq, and_true] at hpa'
    subst hpa'
    rw [hx] at hcell'
    have c0 := hcell' 0 (by omega)
    have c1 := hcell' 1 (by omega)
    have c2 := hcell' 2 (by omega)
    have c3 := hcell' 3 (by omega)
    simp only [spCells, List.getElem?_cons_zero, List.getElem?_cons_succ, Nat.add_zero] at c0 c1 c2 c3
    exact ⟨c0, c1, c2, c3⟩
   have HT : Hid (P.take (k + 1) = P.take k ++ [x]) := by
    show _ = _
    rw [List.take_succ_eq_append_getElem hlt, hx]
   have HF : Hid (TFs w P (P.take k) (.slice pa P.length pc) (.slice oa (P.take k).length oc) wr) := hF
   have HTL : Hid ((P.take k).length <= 1000000000) := by show _ <= _; rw [List.length_take]; have := HSZ.out; omega
   have hs : Hid ((fun w' : World => w'.cell? ⟨b, k * 8, none⟩ = some (.int .i64 x.t.prod) /\ w'.cell? ⟨b, k * 8 + 1, none⟩ = some (.int .i64 x.t.kind) /\ w'.cell? ⟨b, k * 8 + 2, none⟩ = some (.string x.t.tx) /\ w'.cell? ⟨b, k * 8 + 3, none⟩ = some (.slice x.t.ka x.t.kids.length x.t.kc)) wr.drew) := HSP.out _ (hF.p.later (Below.refl _ _).drew)
   have HNX : Hid (∀ j u, (flCells x)[j]? = some u -> (wr.alloc (.cells #[.int .i64 x.t.prod, .int .i64 x.t.kind, .string x.t.tx, .int .i64 (x.t.kids.length : Int)] 62)).drew.cell? ⟨wr.heap.size, j, none⟩ = some u) := fun j u hu => by
    have := cellq_any (i := j) (heap_alloc_new wr (.cells #[.int .i64 x.t.prod, .int .i64 x.t.kind, .string x.t.tx, .int .i64 (x.t.kids.length : Int)] 62))
    refine Eq.trans this ?_
    rw [<- hu]
    simp [flCells]
   have hsz2 := HSZ.out
   clear hF hcell hc hx
   subst hpa
   generalize P.take k = T at *
   generalize x.t.prod = p at *
   generalize x.t.kind = kd at *
   generalize x.t.tx = tx at *
   generalize x.t.ka = ka at *
   generalize x.t.kids.length = kn at *
   generalize x.t.kc = kkc at *
   go_wp2
   refine wp_region_x (S := fun _ => (fun w' : World => w'.cell? ⟨b, k * 8, none⟩ = some (.int .i64 p) /\ w'.cell? ⟨b, k * 8 + 1, none⟩ = some (.int .i64 kd) /\ w'.cell? ⟨b, k * 8 + 2, none⟩ = some (.string tx) /\ w'.cell? ⟨b, k * 8 + 3, none⟩ = some (.slice ka kn kkc))) (by kernel_rfl) ?_
   refine takeF (i := 0) (v := ?_) rfl (by kernel_rfl) (by decide +kernel) (by decide +kernel) (fun _ _ _ h => h) (Or.inl ⟨by rfl, ?_⟩) hs.out ?_
   rotate_left
   ·(intro w hSw; (try dsimp only at hSw); go_simp; try (with_reducible rfl))
   (try simp only [Act.put, lsA, lsZ, lsN])
   refine takeF (i := 1) (v := ?_) rfl (by kernel_rfl) (by decide +kernel) (by decide +kernel) (fun _ _ _ h => h) (Or.inl ⟨by rfl, ?_⟩) hs.out ?_
   rotate_left
   ·(intro w hSw; (try dsimp only at hSw); go_simp; try (with_reducible rfl))
   (try simp only [Act.put, lsA, lsZ, lsN])
   refine takeF (i := 2) (v := ?_) rfl (by kernel_rfl) (by decide +kernel) (by decide +kernel) (fun _ _ _ h => h) (Or.inl ⟨by rfl, ?_⟩) hs.out ?_
   rotate_left
   ·(intro w hSw; (try dsimp only at hSw); go_simp; try (with_reducible rfl))
   (try simp only [Act.put, lsA, lsZ, lsN])
   refine takeF (i := 3) (v := ?_) rfl (by kernel_rfl) (by decide +kernel) (by decide +kernel) (fun _ _ _ h => h) (Or.inl ⟨by rfl, ?_⟩) hs.out ?_
   rotate_left
   ·(intro w hSw; (try dsimp only at hSw); go_simp; try (with_reducible rfl))
   (try simp only [Act.put, lsA, lsZ, lsN])
   refine takeF (i := 4) (v := ?_) rfl (by kernel_rfl) (by decide +kernel) (by decide +kernel) (fun _ _ _ h => h) (Or.inl ⟨by rfl, ?_⟩) hs.out ?_
   rotate_left
   ·(intro w hSw; (try dsimp only at hSw); go_simp; try (with_reducible rfl))
   (try simp only [Act.put, lsA, lsZ, lsN])
   refine takeF (i := 5) (v := ?_) rfl (by kernel_rfl) (by decide +kernel) (by decide +kernel) (fun _ _ _ h => h) (Or.inl ⟨by rfl, ?_⟩) hs.out ?_
   rotate_left
   ·(intro w hSw; (try dsimp only at hSw); go_simp; try (with_reducible rfl))
   (try simp only [Act.put, lsA, lsZ, lsN])
   refine takeF (i := 6) (v := ?_) rfl (by kernel_rfl) (by decide +kernel) (by decide +kernel) (fun _ _ _ h => h) (Or.inl ⟨by rfl, ?_⟩) hs.out ?_
   rotate_left
   ·(intro w hSw; (try dsimp only at hSw); go_simp; try (with_reducible rfl))
   (try simp only [Act.put, lsA, lsZ, lsN])
   refine takeF (i := 7) (v := ?_) rfl (by kernel_rfl) (by decide +kernel) (by decide +kernel) (fun _ _ _ h => h) (Or.inl ⟨by rfl, ?_⟩) hs.out ?_
   rotate_left
   ·(intro w hSw; (try dsimp only at hSw); go_simp; try (with_reducible rfl))
   (try simp only [Act.put, lsA, lsZ, lsN])
   refine takeF (i := 8) (v := ?_) rfl (by kernel_rfl) (by decide +kernel) (by decide +kernel) (fun _ _ _ h => h) (Or.inl ⟨by rfl, ?_⟩) hs.out ?_
   rotate_left
   ·(intro w hSw; (try dsimp only at hSw); go_simp; try (with_reducible rfl))
   (try simp only [Act.put, lsA, lsZ, lsN])
   refine takeF (i := 9) (v := ?_) rfl (by kernel_rfl) (by decide +kernel) (by decide +kernel) (fun _ _ _ h => h) (Or.inl ⟨by rfl, ?_⟩) hs.out ?_
   rotate_left
   ·(intro w hSw; (try dsimp only at hSw); go_simp; try (with_reducible rfl))
   (try simp only [Act.put, lsA, lsZ, lsN])
   refine takeF (i := 10) (v := ?_) rfl (by kernel_rfl) (by decide +kernel) (by decide +kernel) (fun _ _ _ h => h) (Or.inl ⟨by rfl, ?_⟩) hs.out ?_
   rotate_left
   ·(intro w hSw; (try dsimp only at hSw); go_simp; try (with_reducible rfl))
   (try simp only [Act.put, lsA, lsZ, lsN])
   refine takeF (i := 11) (v := ?_) rfl (by kernel_rfl) (by decide +kernel) (by decide +kernel) (fun _ _ _ h => h) (Or.inl ⟨by rfl, ?_⟩) hs.out ?_
   rotate_left
   ·(intro w hSw; (try dsimp only at hSw); go_simp; try (with_reducible rfl))
   (try simp only [Act.put, lsA, lsZ, lsN])
   refine takeF (i := 12) (v := ?_) rfl (by kernel_rfl) (by decide +kernel) (by decide +kernel) (fun _ _ _ h => h) (Or.inl ⟨by rfl, ?_⟩) hs.out ?_
   rotate_left
   ·(intro w hSw; (try dsimp only at hSw); go_simp; try (with_reducible rfl))
   (try simp only [Act.put, lsA, lsZ, lsN])
   refine takeF (i := 13) (v := ?_) rfl (by kernel_rfl) (by decide +kernel) (by decide +kernel) (fun _ _ _ h => h) (Or.inl ⟨by rfl, ?_⟩) hs.out ?_
   rotate_left
   ·(intro w hSw; (try dsimp only at hSw); go_simp; try (with_reducible rfl))
   (try simp only [Act.put, lsA, lsZ, lsN])
   refine takeF (i := 14) (v := ?_) rfl (by kernel_rfl) (by decide +kernel) (by decide +kernel) (fun _ _ _ h => h) (Or.inl ⟨by rfl, ?_⟩) hs.out ?_
   rotate_left
   ·(intro w hSw; (try dsimp only at hSw); go_simp; try (with_reducible rfl))
   (try simp only [Act.put, lsA, lsZ, lsN])
   refine takeF (i := 15) (v := ?_) rfl (by kernel_rfl) (by decide +kernel) (by decide +kernel) (fun _ _ _ h => h) (Or.inl ⟨by rfl, ?_⟩) hs.out ?_
   rotate_left
   ·(intro w hSw; (try dsimp only at hSw); go_simp; try (with_reducible rfl))
   (try simp only [Act.put, lsA, lsZ, lsN])
   refine takeF (i := 16) (v := ?_) rfl (by kernel_rfl) (by decide +kernel) (by decide +kernel) (fun _ _ _ h => h) (Or.inl ⟨by rfl, ?_⟩) hs.out ?_
   rotate_left
   ·(intro w hSw; (try dsimp only at hSw); go_simp; try (with_reducible rfl))
   (try simp only [Act.put, lsA, lsZ, lsN])
   refine takeF (i := 17) (v := ?_) rfl (by kernel_rfl) (by decide +kernel) (by decide +kernel) (fun _ _ _ h => h) (Or.inl ⟨by rfl, ?_⟩) hs.out ?_
   rotate_left
   ·(intro w hSw; (try dsimp only at hSw); go_simp; try (with_reducible rfl))
   (try simp only [Act.put, lsA, lsZ, lsN])
   refine takeF (i := 18) (v := ?_) rfl (by kernel_rfl) (by decide +kernel) (by decide +kernel) (fun _ _ _ h => h) (Or.inl ⟨by rfl, ?_⟩) hs.out ?_
   rotate_left
   ·(intro w hSw; (try dsimp only at hSw); go_simp; try (with_reducible rfl))
   (try simp only [Act.put, lsA, lsZ, lsN])
   refine takeF (i := 19) (v := ?_) rfl (by kernel_rfl) (by decide +kernel) (by decide +kernel) (fun _ _ _ h => h) (Or.inl ⟨by rfl, ?_⟩) hs.out ?_
   rotate_left
   ·(intro w hSw; (try dsimp only at hSw); go_simp; try (with_reducible rfl))
   (try simp only [Act.put, lsA, lsZ, lsN])
   refine takeF (i := 20) (v := ?_) rfl (by kernel_rfl) (by decide +kernel) (by decide +kernel) (fun _ _ _ h => h) (Or.inl ⟨by rfl, ?_⟩) hs.out ?_
   rotate_left
   ·(intro w hSw; (try dsimp only at hSw); go_simp; try (with_reducible rfl))
   (try simp only [Act.put, lsA, lsZ, lsN])
   refine wpAnyX_one (j := 21) (by decide +kernel) rfl (fun K' hK => ?_)
   go_simp
   refine hK.out _ _ (HSP.out _ (HF.out.p.later (below_alloc _ _).drew)) ?_
   clear hK K'
   (try simp only [Act.put, lsA, lsZ, lsN])
   refine wpAnyX_one (j := 22) (by decide +kernel) rfl (fun K' hK => ?_)
   refine step_ro_append rkFlat (by rfl) _ _ (by rfl) (.slice oa T.length oc) T (by rfl) (HF.out.o.later (below_alloc _ _).drew) wr.heap.size 1 x (by rfl) HNX.out HTL.out ?_
   intro a5 n5 c5 w5 ho5 hg5
   have W5 : Hid (TFs w P (T ++ [x]) (.slice (some ⟨b, 0, none⟩) P.length pc) (.slice a5 n5 c5) w5) := HF.out.out (below_alloc _ _).drew hg5 ho5
   refine hK.out _ _ (HSP.out _ W5.out.p) ?_
   clear hK K' ho5 hg5
   (try simp only [Act.put, lsA, lsZ, lsN])
   refine wpAnyX_one (j := 23) (by decide +kernel) rfl (fun K' hK => ?_)
   go_simp
   refine hK.out _ _ (HSP.out _ W5.out.p) ?_
   clear hK K'
   (try simp only [Act.put, lsA, lsZ, lsN])
   refine wpAnyX_done (by decide +kernel) ?_
   clear hs HSP HNX
   go_wp2
   go_roundw
   case rel => exact ⟨k + 1, by omega, by go_num, by rw [HT.out]; exact W5.out⟩
   case measure => simp [intOf]; omega
  ·obtain rfl : k = P.length := by omega
   rw [List.take_length] at hF
   have HF : Hid (FLo wr (.slice oa P.length oc) P /\ (∀ j, (Value.slice oa P.length oc).ownBlock = some j -> w.heap.size < j) /\ Below w.heap.size w wr) := ⟨hF.o, hF.oo, hF.bel⟩
   have klt : ¬ (P.length : Int) < (P.length : Int) := by omega
   clear hF
   go_wp2
   go_ret
   exact ⟨oa, oc, by simp, HF.out⟩
end Go.Proofs.Ytohgnodjdolcnaa
