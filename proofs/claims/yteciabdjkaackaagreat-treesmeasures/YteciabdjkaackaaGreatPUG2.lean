import Derived.Test.YteciabdjkaackaaGreatPUG1
namespace Go.Proofs.YteciabdjkaackaaGreat
set_option linter.unusedVariables false
open Go.RowKit
def rGrR (t : TV) (place : Int) (s T : TV) (e : Int) : Prop := if 0 <= place /\ place < szT t then e = 0 /\ ∃ π, okP π t /\ (nuP π t : Int) = place /\ samV T (setAt π t s) else e = 4 /\ T = .none
structure GrS (w : World) (t s : TV) (W : World) : Prop where
 bel : Below w.heap.size w W
 tb : W.heap[w.heap.size]? = some (tBox t)
 sb : W.heap[w.heap.size + 1]? = some (tBox s)
 z : W.heap[w.heap.size + 1 + 1]? = some zTree
theorem GrS.later {w : World} {t s : TV} {W W' : World} (h : GrS w t s W) (hb : Below W.heap.size W W') : GrS w t s W' := ⟨h.bel.trans (hb.mono h.bel.size), (hb.block _ (lt_of_block h.tb)).trans h.tb, (hb.block _ (lt_of_block h.sb)).trans h.sb, (hb.block _ (lt_of_block h.z)).trans h.z⟩
theorem gr_start (w : World) (t s : TV) : GrS w t s (((w.alloc (tBox t)).alloc (tBox s)).alloc zTree) := by
 obtain ⟨k1, k2, k3⟩ := two_allocT w (tBox t) (tBox s)
 have hb := below_alloc ((w.alloc (tBox t)).alloc (tBox s)) zTree
 have hz : ((w.alloc (tBox t)).alloc (tBox s)).heap.size = w.heap.size + 1 + 1 := by simp
 have h3 := heap_alloc_new ((w.alloc (tBox t)).alloc (tBox s)) zTree
 rw [hz] at h3
 exact ⟨k1.trans (hb.mono k1.size), (hb.block _ (lt_of_block k2)).trans k2, (hb.block _ (lt_of_block k3)).trans k3, h3⟩
theorem gr_fin {w : World} {t s T : TV} {W : World} (h : GrS w t s W) {W' : World} (hb : Below W.heap.size W W') (hT : TAt W' T) (hn : ∀ a ∈ adsL (kidsA T), a.1 ≠ w.heap.size + 1 + 1) : TBx (set4 W' (w.heap.size + 1 + 1) 0 T) (w.heap.size + 1 + 1) 0 T /\ Below w.heap.size w (set4 W' (w.heap.size + 1 + 1) 0 T) /\ TAt (set4 W' (w.heap.size + 1 + 1) 0 T) T := by
 have h' := h.later hb
 have hz := h'.z
 exact ⟨set4_tbx (v0 := .int .i64 0) (v1 := .int .i64 0) (v2 := .string ByteArray.empty) (v3 := .slice none 0 0) T ((cellq_any hz).trans rfl) ((cellq_any hz).trans rfl) ((cellq_any hz).trans rfl) ((cellq_any hz).trans rfl) (lt_of_block hz), set4_below h'.bel 0 T (by omega), tat_kept hT (fun a ha => set4_other _ _ _ _ _ (hn a ha)) (by rw [set4_size]; exact Nat.le_refl _)⟩
set_option linter.unusedSimpArgs false in
set_option maxRecDepth 100000 in
set_option maxHeartbeats 8000000 in
theorem rgraft_S (t s : TV) (place : Int) (w : World) (hpl : -9223372036854775808 <= place /\ place <= 9223372036854775807) (ht : TAt w t) (hs : TAt w s) (hsz : szT t <= 50000000) (hss : szT s <= 50000000) : Calls Tryz.prog 11 #[t.val, .int .i64 place, s.val] w fun e w' => ∃ T e1, e = .returned (.tuple #[T.val, .int .i64 e1]) /\ rGrR t place s T e1 /\ TAt w' T /\ Below w.heap.size w w' := by
 obtain ⟨W0, hW0⟩ : ∃ W0, ((w.alloc (tBox t)).alloc (tBox s)).alloc zTree = W0 := ⟨_, rfl⟩
 have X0 : Hid (GrS w t s W0) := by rw [<- hW0]; exact gr_start w t s
 have FT : Hid (∀ w', Below w.heap.size w w' -> Calls Tryz.prog 41 #[t.val] w' fun e w'' => ∃ a c, e = .returned (.slice a (plT 0 t).length c) /\ FLo w'' (.slice a (plT 0 t).length c) (plT 0 t) /\ (∀ j, (Value.slice a (plT 0 t).length c).ownBlock = some j -> w'.heap.size < j) /\ Below w'.heap.size w' w'') := fun w' hb => flatten_S t w' (ht.later hb) (Nat.le_trans hsz (by omega))
 have FS : Hid (∀ w', Below w.heap.size w w' -> Calls Tryz.prog 41 #[s.val] w' fun e w'' => ∃ a c, e = .returned (.slice a (plT 0 s).length c) /\ FLo w'' (.slice a (plT 0 s).length c) (plT 0 s) /\ (∀ j, (Value.slice a (plT 0 s).length c).ownBlock = some j -> w'.heap.size < j) /\ Below w'.heap.size w' w'') := fun w' hb => flatten_S s w' (hs.later hb) (Nat.le_trans hss (by omega))
 obtain ⟨x0, x1, x2, x3⟩ := tb_cells X0.out.tb
 go_enter Tryz.func11, Tryz.ntmps11
 go_upto_region 1 with fail
 change Code.wp _ _ _ _ (((w.alloc (tBox t)).alloc (tBox s)).alloc zTree)
 rw [hW0]
 go_upto_region 2 with (go_at_call 41; refine (FT.out _ X0.out.bel).mono ?_; rintro e w1 ⟨pa, pc, rfl, p1, p2, bb⟩; have W1 : Hid (GrS w t s w1 /\ FLo w1 (.slice pa (plT 0 t).length pc) (plT 0 t) /\ (∀ j, (Value.slice pa (plT 0 t).length pc).ownBlock = some j -> W0.heap.size < j) /\ Below W0.heap.size W0 w1) := ⟨X0.out.later bb, p1, p2, bb⟩; clear p1 p2 bb x0 x1 x2 x3)
 clear FT hW0
 have hP : (plT 0 t).length = szT t := rfl
 have hQ : (plT 0 s).length = szT s := rfl
 by_cases hin : 0 <= place /\ place < szT t
 ·obtain ⟨k, hk⟩ : ∃ k : Nat, place = k := ⟨place.toNat, by omega⟩
  subst hk
  have hlt : k < (plT 0 t).length := by omega
  obtain ⟨A, B, q1, q2, q3, q4⟩ := pl_split t 0 k hlt
  obtain ⟨π, r1, r2, -⟩ := path_ex t 0 0 k (by omega)
  obtain ⟨x, hx⟩ : ∃ x, (plT 0 t)[k] = x := ⟨_, rfl⟩
  rw [hx] at q1 q3 q4
  subst q2
  have GS := graft_sgs (s := s) r1 q1 r2.symm
  have RG : Hid (∀ T, samV T (setAt π t s) -> rGrR t A.length s T 0) := fun T hT => by
   unfold rGrR
   rw [if_pos ⟨by omega, by omega⟩]
   exact ⟨rfl, π, r1, by rw [r2], hT⟩
  obtain ⟨U, hU⟩ : ∃ U, setAt π t s = U := ⟨_, rfl⟩
  rw [hU] at GS RG
  obtain ⟨pb, pc', e, hpc, -⟩ := RO.cell (f := flCells) (k := 4) (fun _ => rfl) W1.out.2.1 hlt
  simp only [Value.slice.injEq, true_and] at e
  obtain ⟨rfl, rfl⟩ := e
  obtain ⟨P, hPP⟩ : ∃ P, plT 0 t = P := ⟨_, rfl⟩
  obtain ⟨Q, hQQ⟩ : ∃ Q, plT 0 s = Q := ⟨_, rfl⟩
  obtain ⟨N, hN⟩ : ∃ N, (plT x.d x.t).length = N := ⟨_, rfl⟩
  have hPl : P.length = A.length + (N + B.length) := by rw [<- hPP, q1, List.length_append, List.length_append, hN]
  rw [hPP] at q1 W1 hP hpc ⊢
  rw [hQQ] at FS hQ GS
  have GSH : Hid ((A ++ (Q ++ B)).map (fun y => sgV y.t) = sgs U) := GS
  have HSP : Hid (∀ w', FLo w' (.slice (some ⟨pb, 0, none⟩) P.length pc) P -> Calls Tryz.prog 42 #[.slice (some ⟨pb, 0, none⟩) P.length pc, .int .i64 (A.length : Int)] w' fun e w'' => e = .returned (.int .i64 (N : Int)) /\ ∃ d, w'' = w'.drewN d) := fun w' hr => by
   have := span_S A B x ⟨q3, q4⟩ P q1 w' (some ⟨pb, 0, none⟩) pc hr (by omega)
   rwa [hN] at this
  have hs1 := slice_toF (some ⟨pb, 0, none⟩) pc P.length A.length (by omega) (fun e => by cases e) (fun ad e => by cases e; rfl)
  have hao : A.length + N < P.length -> (if pc = A.length + N then (some ⟨pb, 0, none⟩ : Option Addr) else some ⟨pb, (A.length + N) * 4, none⟩) = some ⟨pb, (A.length + N) * 4, none⟩ := fun h => if_neg (by omega)
  have S1 : Hid (∀ w', FLo w' (.slice (some ⟨pb, 0, none⟩) P.length pc) P -> A ≠ [] -> ∃ b off, (some ⟨pb, 0, none⟩ : Option Addr) = some ⟨b, off, none⟩ /\ ∀ j u, (A.flatMap flCells)[j]? = some u -> w'.cell? ⟨b, off + j, none⟩ = some u) := fun w' hr hne => by
   rw [q1] at hr
   obtain ⟨b, e, h⟩ := ro_part (k := 4) (A := []) (X := A) (fun _ => rfl) (by omega) hr hne
   cases e
   exact ⟨pb, 0, rfl, fun j u hu => by have := h j u hu; simpa using this⟩
  have S3 : Hid (∀ w', FLo w' (.slice (some ⟨pb, 0, none⟩) P.length pc) P -> B ≠ [] -> ∃ b off, (if pc = A.length + N then (some ⟨pb, 0, none⟩ : Option Addr) else some ⟨pb, (A.length + N) * 4, none⟩) = some ⟨b, off, none⟩ /\ ∀ j u, (B.flatMap flCells)[j]? = some u -> w'.cell? ⟨b, off + j, none⟩ = some u) := fun w' hr hne => by
   have hb : A.length + N < P.length := by have := List.length_pos_iff.2 hne; omega
   rw [q1, <- List.append_assoc, <- List.append_nil B] at hr
   obtain ⟨b, e, h⟩ := ro_part (k := 4) (A := A ++ plT x.d x.t) (X := B) (B := []) (fun _ => rfl) (by omega) hr hne
   cases e
   refine ⟨pb, (A.length + N) * 4, hao hb, fun j u hu => ?_⟩
   have := h j u hu
   rwa [List.length_append, hN] at this
  have HLN : Hid (A.length + (N + B.length) <= 50000000 /\ Q.length <= 50000000) := ⟨by omega, by omega⟩
  have W2 : Hid (TwR 128 4 flCells 128 4 flCells W0 P [] (.slice (some ⟨pb, 0, none⟩) P.length pc) (.slice none 0 0) w1) := ⟨W1.out.2.1, RO.nil _, fun j hj => Nat.le_of_lt (W1.out.2.2.1 j hj), fun j hj => by simp [Value.ownBlock] at hj, fun j _ e => by simp [Value.ownBlock] at e, W1.out.2.2.2⟩
  have g1 : decide ((A.length : Int) < 0) = false := by simp
  have g2 : decide ((A.length : Int) ≥ (P.length : Int)) = false := by simp; omega
  have g7 : decide (P.length <= A.length) = false := by simp; omega
  have g3 : A.length <= pc := by omega
  have g5 : A.length + N <= pc := by omega
  have g6 : A.length + N <= P.length := by omega
  have o1 : IntKind.i64.wrap ((A.length : Int) + (N : Int)) = ((A.length + N : Nat) : Int) := IntWalk.i64_in _ ⟨by omega, by omega⟩
  clear q1 q3 q4 hx r1 r2 hU GS hQQ hN hP hQ hin hpl ht hs hsz hss hlt hao hpc W1
  have HPL : Hid (P.length = A.length + (N + B.length)) := hPl
  clear hPl
  obtain ⟨k, hAL⟩ : ∃ k, A.length = k := ⟨_, rfl⟩
  have HAL : Hid (A.length = k) := hAL
  rw [hAL] at RG HSP hs1 S3 HLN g1 g2 g7 g3 g5 g6 o1 HPL ⊢
  clear hAL
  obtain ⟨pl, hpl2⟩ : ∃ pl, P.length = pl := ⟨_, rfl⟩
  rw [hpl2] at HSP hs1 S1 S3 W2 g2 g7 g6 HPL ⊢
  clear hpl2
  go_upto_region 6 with (at_builtin; refine wpList_ro_cat rkFlat rfl _ _ rfl (.slice none 0 0) [] rfl (RO.nil _) (some ⟨pb, 0, none⟩) pc A (by rw [HAL.out]; rfl) (S1.out _ W2.out.o) (by have := HLN.out; have := HAL.out; simp; omega) ?_; intro a5 n5 c5 w5 ho5 hg5; have W5 : Hid (TwR 128 4 flCells 128 4 flCells W0 P A (.slice (some ⟨pb, 0, none⟩) pl pc) (.slice a5 n5 c5) w5) := W2.out.push (Below.refl _ _) hg5 (by simpa using ho5); clear ho5 hg5)
  clear W2 S1 hs1
  have GR : Hid (∀ w', Below W0.heap.size W0 w' -> GrS w t s w') := fun w' hb => X0.out.later hb
  obtain ⟨y0, y1, y2, y3⟩ := tb_cells (GR.out _ W5.out.bel).sb
  go_upto_region 7 with (first | (go_at_call 41; refine (FS.out _ (GR.out _ W5.out.bel).bel).mono ?_; rintro e w6 ⟨qa, qc, rfl, p1, p2, bb⟩; have W6 : Hid (TwR 128 4 flCells 128 4 flCells W0 P A (.slice (some ⟨pb, 0, none⟩) pl pc) (.slice a5 n5 c5) w6 /\ FLo w6 (.slice qa Q.length qc) Q) := ⟨W5.out.any bb, p1⟩; have S2 : Hid (Q ≠ [] -> ∃ b off, qa = some ⟨b, off, none⟩ /\ ∀ j u, (Q.flatMap flCells)[j]? = some u -> w6.cell? ⟨b, off + j, none⟩ = some u) := (fun hne => (by obtain ⟨b, e, h⟩ := ro_part (k := 4) (A := []) (X := Q) (B := []) (fun _ => rfl) (by omega) (by simpa using p1) hne; exact ⟨b, 0, e, fun j u hu => (by have := h j u hu; simpa using this)⟩)); clear p1 p2 bb y0 y1 y2 y3) | (at_builtin; refine wpList_ro_cat rkFlat rfl _ _ rfl (.slice a5 n5 c5) A rfl W6.out.1.s qa qc Q rfl S2.out (by have := HLN.out; have := HAL.out; omega) ?_; intro a7 n7 c7 w7 ho7 hg7; have W7 : Hid (TwR 128 4 flCells 128 4 flCells W0 P (A ++ Q) (.slice (some ⟨pb, 0, none⟩) pl pc) (.slice a7 n7 c7) w7) := W6.out.1.push (Below.refl _ _) hg7 ho7; clear ho7 hg7))
  clear W5 W6 S2 FS
  have HBL : Hid (pl - (k + N) = B.length) := by show _ = _; have := HPL.out; omega
  go_upto_region 8 with (first | (go_at_call 42; refine (HSP.out _ W7.out.o).mono ?_; rintro e w8 ⟨rfl, d, rfl⟩; have W8 : Hid (TwR 128 4 flCells 128 4 flCells W0 P (A ++ Q) (.slice (some ⟨pb, 0, none⟩) pl pc) (.slice a7 n7 c7) (w7.drewN d)) := W7.out.any (below_drewN (Below.refl _ _) _)) | (at_builtin; (refine wpList_ro_cat rkFlat rfl _ _ rfl (.slice a7 n7 c7) (A ++ Q) rfl W8.out.s (if pc = k + N then (some ⟨pb, 0, none⟩ : Option Addr) else some ⟨pb, (k + N) * 4, none⟩) (pc - (k + N)) B (by rw [<- HBL.out]; rfl) (S3.out _ W8.out.o) (by have := HLN.out; have := HAL.out; simp; omega) ?_; intro a9 n9 c9 w9 ho9 hg9; have W9 : Hid (TwR 128 4 flCells 128 4 flCells W0 P ((A ++ Q) ++ B) (.slice (some ⟨pb, 0, none⟩) pl pc) (.slice a9 n9 c9) w9) := W8.out.push (Below.refl _ _) hg9 ho9; clear ho9 hg9)))
  clear W7 W8 HBL HSP S3
  obtain ⟨a9', c9', e9, _⟩ := RO.len W9.out.s
  simp only [Value.slice.injEq] at e9
  obtain ⟨rfl, rfl, rfl⟩ := e9
  have CB : Hid (Calls Tryz.prog 43 #[.slice a9 ((A ++ Q) ++ B).length c9] w9 fun e w' => ∃ T, e = .returned (TV.val T) /\ samV T U /\ TAt w' T /\ Below w9.heap.size w9 w' /\ ∀ a ∈ adsL (kidsA T), w9.heap.size < a.1) := build_S ((A ++ Q) ++ B) U (by rw [List.append_assoc]; exact GSH.out) w9 a9 c9 W9.out.s (by have := HLN.out; have := HAL.out; simp; omega)
  have G9 : Hid (GrS w t s w9) := GR.out _ W9.out.bel
  have LZ : Hid (w.heap.size + 1 + 1 < w9.heap.size) := lt_of_block G9.out.z
  clear W9 GR X0 HLN HPL
  generalize ((A ++ Q) ++ B).length = n9 at *
  go_wp2_with (go_at_call 43; refine CB.out.mono ?_; rintro e w10 ⟨T, rfl, p1, p2, bb, p3⟩; have F3 : Hid (TBx (set4 w10 (w.heap.size + 1 + 1) 0 T) (w.heap.size + 1 + 1) 0 T /\ Below w.heap.size w (set4 w10 (w.heap.size + 1 + 1) 0 T) /\ TAt (set4 w10 (w.heap.size + 1 + 1) 0 T) T) := gr_fin G9.out bb p2 (fun a ha => (by have := p3 a ha; have := LZ.out; omega)); have SM : Hid (rGrR t k s T 0) := RG.out T p1; have z3 := (G9.out.later bb).z; obtain ⟨d0, d1, d2, d3, f0, f1, f2, f3⟩ := z_cells z3; clear p1 p2 p3 bb z3)
  all_goals
   change bodyPost _ _ _ _ _ (set4 w10 (w.heap.size + 1 + 1) 0 T)
   generalize set4 w10 (w.heap.size + 1 + 1) 0 T = w4 at *
   have x0 := F3.out.1.c0
   have x1 := F3.out.1.c1
   have x2 := F3.out.1.c2
   have x3 := F3.out.1.c3
   simp only [Nat.zero_add] at x1 x2 x3
   refine bodyPost_ret (v := .tuple #[T.val, .int .i64 0]) (by simp [results, Tryz.results11, go_sem, x0, x1, x2, x3]) rfl ?_
   exact ⟨T, 0, rfl, by rw [HAL.out]; exact SM.out, F3.out.2.2, F3.out.2.1⟩
 ·have RA : Hid (rGrR t place s .none 4) := by
   unfold rGrR
   rw [if_neg hin]
   exact ⟨rfl, rfl⟩
  have z3 := W1.out.1.z
  obtain ⟨d0, d1, d2, d3, f0, f1, f2, f3⟩ := z_cells z3
  have F3 : Hid (TBx (set4 w1 (w.heap.size + 1 + 1) 0 .none) (w.heap.size + 1 + 1) 0 .none /\ Below w.heap.size w (set4 w1 (w.heap.size + 1 + 1) 0 .none)) := ⟨set4_tbx .none d0 d1 d2 d3 (lt_of_block z3), set4_below W1.out.1.bel 0 .none (by omega)⟩
  have hor : decide (place < 0) = true ∨ (decide (place < 0) = false /\ decide (place ≥ ((plT 0 t).length : Int)) = true) := by
   by_cases h : place < 0
   ·exact .inl (by simpa using h)
   ·exact .inr ⟨by simpa using h, by simp; omega⟩
  clear X0 z3 W1 hin hpl ht hs hsz hss hP hQ FS
  generalize (plT 0 t).length = L at *
  have END : Hid (∃ T e1, Value.tuple #[TV.none.val, .int .i64 4] = .tuple #[TV.val T, .int .i64 e1] /\ rGrR t place s T e1 /\ ∀ w', TAt w' T) := ⟨.none, 4, rfl, RA.out, fun w' => TAt.mk _ (fun h => absurd rfl h) (fun x hx => by cases hx)⟩
  rcases hor with g1 | ⟨g1, g2⟩
  all_goals
   go_wp2
   change bodyPost _ _ _ _ _ (set4 w1 (w.heap.size + 1 + 1) 0 .none)
   generalize set4 w1 (w.heap.size + 1 + 1) 0 .none = w4 at *
   have x0 := F3.out.1.c0
   have x1 := F3.out.1.c1
   have x2 := F3.out.1.c2
   have x3 := F3.out.1.c3
   simp only [Nat.zero_add] at x1 x2 x3
   refine bodyPost_ret (v := .tuple #[TV.none.val, .int .i64 4]) (by simp [results, Tryz.results11, go_sem, x0, x1, x2, x3]) rfl ?_
   obtain ⟨T, e1, q1, q2, q3⟩ := END.out
   exact ⟨T, e1, by rw [q1], q2, q3 _, F3.out.2⟩
end Go.Proofs.YteciabdjkaackaaGreat
