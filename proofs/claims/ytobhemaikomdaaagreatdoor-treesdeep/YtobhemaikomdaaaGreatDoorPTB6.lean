import Derived.Test.YtobhemaikomdaaaGreatDoorPTB5
namespace Go.Proofs.YtobhemaikomdaaaGreatDoor
set_option linter.unusedVariables false
open Go.RowKit
abbrev zTrB : Obj := .cells #[.int .i64 0, .int .i64 0, .string ⟨#[]⟩, .slice none 0 0] 32
theorem set_app4 {α : Type} (A B : List α) (a0 a1 a2 a3 v0 v1 v2 v3 : α) (n : Nat) (hn : A.length = n) : ((((A ++ a0 :: a1 :: a2 :: a3 :: B).set n v0).set (n + 1) v1).set (n + 2) v2).set (n + 3) v3 = A ++ v0 :: v1 :: v2 :: v3 :: B := by
 subst hn
 simp
theorem tro_last {w : World} {g n c : Nat} {l : List TV} {x : TV} (T : TV) (h : TRo w (.slice (some ⟨g, 0, none⟩) n c) (l ++ [x])) : TRo (set4 w g (l.length * 4) T) (.slice (some ⟨g, 0, none⟩) n c) (l ++ [T]) := by
 rcases h.2 with ⟨e, _⟩ | ⟨g', cap, cur, e, h1, h2, h3, h4, h5, h6⟩
 ·cases e
 ·simp only [Value.slice.injEq, Option.some.injEq, Addr.mk.injEq, and_true] at e
  obtain ⟨rfl, rfl, rfl⟩ := e
  have b0 := heap_setCell_same w g (l.length * 4) _ _ (.int .i64 T.prod) h2
  have b1 := heap_setCell_same _ g (l.length * 4 + 1) _ _ (.int .i64 T.kind) b0
  have b2 := heap_setCell_same _ g (l.length * 4 + 2) _ _ (.string T.tx) b1
  have b3 := heap_setCell_same _ g (l.length * 4 + 3) _ _ (.slice T.ka T.kids.length T.kc) b2
  have hA := fm_len (k := 4) (f := trCells) (fun _ => rfl) l
  have hlen : (l ++ [x]).length = (l ++ [T]).length := by simp
  refine ⟨fm_len (k := 4) (fun _ => rfl) _, .inr ⟨g, c, _, by rw [hlen], h1, b3, by rw [<- hlen]; exact h3, h4, by simpa using h5, ?_⟩⟩
  obtain ⟨B, hB⟩ : ∃ B, cur.toList = l.flatMap trCells ++ (.int .i64 x.prod) :: (.int .i64 x.kind) :: (.string x.tx) :: (.slice x.ka x.kids.length x.kc) :: B := by
   refine ⟨cur.toList.drop ((l ++ [x]).length * 4), ?_⟩
   conv => lhs; rw [<- List.take_append_drop ((l ++ [x]).length * 4) cur.toList, h6]
   simp [trCells]
  simp only [Array.toList_setIfInBounds, hB]
  rw [set_app4 _ _ _ _ _ _ _ _ _ _ _ hA, List.flatMap_append]
  have hT : ([T] : List TV).flatMap trCells = [.int .i64 T.prod, .int .i64 T.kind, .string T.tx, .slice T.ka T.kids.length T.kc] := by simp [trCells]
  rw [hT]
  have e2 : (l ++ [T]).length * 4 = (l.flatMap trCells ++ [Value.int .i64 T.prod, Value.int .i64 T.kind, Value.string T.tx, Value.slice T.ka T.kids.length T.kc]).length := by
   rw [List.length_append, List.length_append, hA]; simp; omega
  rw [e2]
  have e3 : l.flatMap trCells ++ (Value.int .i64 T.prod) :: (Value.int .i64 T.kind) :: (Value.string T.tx) :: (Value.slice T.ka T.kids.length T.kc) :: B = (l.flatMap trCells ++ [Value.int .i64 T.prod, Value.int .i64 T.kind, Value.string T.tx, Value.slice T.ka T.kids.length T.kc]) ++ B := by simp
  rw [e3, List.take_left']
  rfl
theorem grew_set4 {w w' : World} {v v' : Value} {g o : Nat} (T : TV) (h : Grew w w' v v') (hv : v'.ownBlock = some g) : Grew w (set4 w' g o T) v v' := by
 refine ⟨⟨h.grown.os, h.grown.tape, h.grown.output, by rw [set4_size]; exact h.grown.size, fun i hi hne => ?_⟩, h.moved⟩
 rw [set4_other _ _ _ _ _ (fun e => ?_)]
 ·exact h.grown.block i hi hne
 ·subst e
  rcases h.moved with q | ⟨k, q, hk⟩
  ·exact hne (by rw [<- q, hv])
  ·rw [hv] at q; cases q; omega
theorem set_swapB (w : World) {q g : Nat} (hqg : q ≠ g) (i o : Nat) (v : Value) (T : TV) : set4 (w.setCell ⟨q, i, none⟩ v) g o T = (set4 w g o T).setCell ⟨q, i, none⟩ v := by
 unfold set4
 have sw : ∀ (w : World) (j : Nat) (u : Value), (w.setCell ⟨q, i, none⟩ v).setCell ⟨g, j, none⟩ u = (w.setCell ⟨g, j, none⟩ u).setCell ⟨q, i, none⟩ v := fun w j u => by
  simp only [World.setCell]
  congr 1
  apply Array.ext_getElem?
  intro k
  simp only [Array.getElem?_modify]
  by_cases h1 : g = k
  ·subst h1
   simp [hqg]
  ·by_cases h2 : q = k
   ·subst h2
    simp [h1]
   ·simp [h1, h2]
 rw [sw, sw, sw, sw]
theorem ro_there {w : World} {g n c : Nat} {l : List TV} {x : TV} (h : TRo w (.slice (some ⟨g, 0, none⟩) n c) (l ++ [x])) : w.there g (l.length * 4) 4 := by
 rcases h.2 with ⟨e, _⟩ | ⟨g', cap, cur, e, h1, h2, h3, h4, h5, h6⟩
 ·cases e
 ·simp only [Value.slice.injEq, Option.some.injEq, Addr.mk.injEq, and_true] at e
  obtain ⟨rfl, rfl, rfl⟩ := e
  intro j hj
  have hc : l.length * 4 + j < cur.size := by rw [h5]; simp at h3; omega
  refine ⟨?_, by simp [World.frozen?, h2]⟩
  rw [cellq_any h2, Array.getElem?_eq_getElem hc]
  first | rfl | simp
section
variable {w0 : World} {N bb bo : Nat} {OC : Nat -> Option Value} {RF : Nat -> Option Obj} {w : World}
variable {A : AB}
def leS (bb bo bt : Nat) (vd : Value) (tk : Int) (tx : ByteArray) (w : World) : Prop := w.cell? ⟨bb, bo + 1, none⟩ = some vd /\ w.cell? ⟨bt, 0, none⟩ = some (.int .i64 tk) /\ w.cell? ⟨bt, 1, none⟩ = some (.string tx)
def lfT (tk : Int) (tx : ByteArray) : TV := TV.mk (-1) tk tx none 0 []
theorem BdM.addL {vo : Value} {da : Option Addr} {dl dc : Nat} {NL : List (Int × Nat × Nat)} {DL : List TV} (h : BdM w0 N bb bo OC RF vo (.slice da dl dc) NL DL w) (tk : Int) (tx : ByteArray) {x : TV} {w8 : World} {g n c : Nat} (hg : Grew w w8 (.slice da dl dc) (.slice (some ⟨g, 0, none⟩) n c)) (ro : TRo w8 (.slice (some ⟨g, 0, none⟩) n c) (DL ++ [x])) : BdM w0 N bb bo OC RF vo (.slice (some ⟨g, 0, none⟩) n c) NL (DL ++ [lfT tk tx]) ((set4 w8 g (DL.length * 4) (lfT tk tx)).setCell ⟨bb, bo + 1, none⟩ (.slice (some ⟨g, 0, none⟩) n c)) := by
 have h' : BdM w0 N bb bo OC RF vo (.slice da dl dc) NL (DL ++ []) w := by rw [List.append_nil]; exact h
 exact h'.fold (lfT tk tx) rfl (fun e => absurd rfl e) (fun e => absurd rfl e) rfl (grew_set4 _ hg rfl) (tro_last _ ro)
set_option linter.unusedSimpArgs false in
set_option maxRecDepth 100000 in
set_option maxHeartbeats 4000000 in
theorem leaf_B (tk : Int) (tx : ByteArray) (h : BdS w0 N bb bo OC RF A w) (hz : (dlA A).length + A.2.length <= 999999999) : Calls Tryz.prog 74 #[.pointer (some ⟨bb, bo, none⟩), .agg #[.int .i64 tk, .string tx]] w fun e w' => e = .returned (.tuple #[]) /\ BdS w0 N bb bo OC RF (clU2 (adA A (lfT tk tx))) w' := by
 obtain ⟨vo, vd, B, hs, hM⟩ := h
 have hzE := dlA_len hs
 have RS : Hid (∀ v' w', BdM w0 N bb bo OC RF vo v' (nlA B) (dlA B ++ [lfT tk tx]) w' -> Calls Tryz.prog 104 #[.pointer (some ⟨bb, bo, none⟩)] w' fun e w'' => e = .returned (.tuple #[]) /\ BdS w0 N bb bo OC RF (clU2 (adA A (lfT tk tx))) w'') := fun v' w' hM' => by
  obtain ⟨D, S⟩ := A
  obtain ⟨E, T⟩ := B
  refine close_B ⟨vo, v', adA (E, T) (lfT tk tx), samA_ad hs (samV_refl _), ?_⟩ ?_
  ·rw [nlA_ad, dlA_ad]
   exact hM'
  ·rw [dlA_ad, adA_len]
   simp only [List.length_append, List.length_singleton]
   dsimp only at hz
   omega
 have HDL : Hid ((dlA B).length <= 1000000000) := by show _ <= _; omega
 clear hzE hz hs
 generalize nlA B = NL at *
 generalize dlA B = DL at *
 obtain ⟨da, dc, rfl, -⟩ := RO.len hM.td
 have HM : Hid (BdM w0 N bb bo OC RF vo (.slice da DL.length dc) NL DL w) := hM
 clear hM
 obtain ⟨m, hm⟩ : ∃ m, DL.length = m := ⟨_, rfl⟩
 have HMM : Hid (DL.length = m) := hm
 rw [hm] at HM HDL
 clear hm
 have e1 : (m : Int) < (m : Int) + 1 := by omega
 go_enter Tryz.func74, Tryz.ntmps74
 go_upto_region 1 with fail
 refine wp_world (fun w' => BdM w0 N bb bo OC RF vo (.slice da m dc) NL DL w' /\ w'.heap[w.heap.size]? = some (.cells #[.int .i64 tk, .string tx] 29)) ⟨HM.out.later (below_alloc _ _), heap_alloc_new _ _⟩ fun w1 h1 => ?_
 obtain ⟨wd, hwd⟩ : ∃ wd : World, wd = w1.drew := ⟨_, rfl⟩
 have H8 : Hid (BdM w0 N bb bo OC RF vo (.slice da m dc) NL DL wd /\ wd.heap[w.heap.size]? = some (.cells #[.int .i64 tk, .string tx] 29)) := by rw [hwd]; exact ⟨h1.1.later (Below.refl _ _).drew, h1.2⟩
 clear h1
 have HBT : Hid (w.heap.size ≠ bb /\ (Value.slice da m dc).ownBlock ≠ some w.heap.size) := by
  obtain ⟨C, ty, hC, -⟩ := HM.out.bk
  refine ⟨fun e => ?_, fun e => ?_⟩
  ·have := lt_of_block hC; omega
  ·have := HM.out.td.lt _ e; omega
 generalize w.heap.size = bt at *
 have HR : Hid (∀ w', BdM w0 N bb bo OC RF vo (.slice da m dc) NL DL w' /\ w'.heap[bt]? = some (.cells #[.int .i64 tk, .string tx] 29) -> leS bb bo bt (.slice da m dc) tk tx w') := fun w' h => ⟨h.1.cd.1, (cellq_any h.2).trans rfl, (cellq_any h.2).trans rfl⟩
 have hs : Hid (leS bb bo bt (.slice da m dc) tk tx wd) := HR.out _ H8.out
 refine wp_region_x (S := SX 8 (fun _ => True) (leS bb bo bt (.slice da m dc) tk tx)) (by kernel_rfl) ?_
 rw [<- hwd]
 clear hwd HM
 refine wpAnyX_takeBM (m := 8) (i := 0) (v := ?_) rfl (by kernel_rfl) (by kernel_rfl) (by decide) (by decide +kernel) (by decide +kernel) (fun _ _ _ h => h) (by kernel_rfl) (Or.inl ⟨by rfl, ?_⟩) (SX.both trivial hs.out) ?_
 rotate_left
 ·(intro w hSw; have z0 := hSw.2; unfold leS at z0; obtain ⟨z1, z2, z3⟩ := z0; clear hSw; go_simp; try (with_reducible rfl))
 (try simp only [Act.put, List.setIfInBounds_toArray, List.set_cons_zero, List.set_cons_succ])
 refine wpAnyX_takeBM (m := 8) (i := 1) (v := ?_) rfl (by kernel_rfl) (by kernel_rfl) (by decide) (by decide +kernel) (by decide +kernel) (fun _ _ _ h => h) (by kernel_rfl) (Or.inl ⟨by rfl, ?_⟩) (SX.both trivial hs.out) ?_
 rotate_left
 ·(intro w hSw; have z0 := hSw.2; unfold leS at z0; obtain ⟨z1, z2, z3⟩ := z0; clear hSw; go_simp; try (with_reducible rfl))
 (try simp only [Act.put, List.setIfInBounds_toArray, List.set_cons_zero, List.set_cons_succ])
 refine wpAnyX_takeBM (m := 8) (i := 2) (v := ?_) rfl (by kernel_rfl) (by kernel_rfl) (by decide) (by decide +kernel) (by decide +kernel) (fun _ _ _ h => h) (by kernel_rfl) (Or.inl ⟨by rfl, ?_⟩) (SX.both trivial hs.out) ?_
 rotate_left
 ·(intro w hSw; have z0 := hSw.2; unfold leS at z0; obtain ⟨z1, z2, z3⟩ := z0; clear hSw; go_simp; try (with_reducible rfl))
 (try simp only [Act.put, List.setIfInBounds_toArray, List.set_cons_zero, List.set_cons_succ])
 refine wpAnyX_takeBM (m := 8) (i := 3) (v := ?_) rfl (by kernel_rfl) (by kernel_rfl) (by decide) (by decide +kernel) (by decide +kernel) (fun _ _ _ h => h) (by kernel_rfl) (Or.inl ⟨by rfl, ?_⟩) (SX.both trivial hs.out) ?_
 rotate_left
 ·(intro w hSw; have z0 := hSw.2; unfold leS at z0; obtain ⟨z1, z2, z3⟩ := z0; clear hSw; go_simp; try (with_reducible rfl))
 (try simp only [Act.put, List.setIfInBounds_toArray, List.set_cons_zero, List.set_cons_succ])
 refine wpAnyX_takeBM (m := 8) (i := 4) (v := ?_) rfl (by kernel_rfl) (by kernel_rfl) (by decide) (by decide +kernel) (by decide +kernel) (fun _ _ _ h => h) (by kernel_rfl) (Or.inl ⟨by rfl, ?_⟩) (SX.both trivial hs.out) ?_
 rotate_left
 ·(intro w hSw; have z0 := hSw.2; unfold leS at z0; obtain ⟨z1, z2, z3⟩ := z0; clear hSw; go_simp; try (with_reducible rfl))
 (try simp only [Act.put, List.setIfInBounds_toArray, List.set_cons_zero, List.set_cons_succ])
 refine wpAnyX_takeBM (m := 8) (i := 5) (v := ?_) rfl (by kernel_rfl) (by kernel_rfl) (by decide) (by decide +kernel) (by decide +kernel) (fun _ _ _ h => h) (by kernel_rfl) (Or.inl ⟨by rfl, ?_⟩) (SX.both trivial hs.out) ?_
 rotate_left
 ·(intro w hSw; have z0 := hSw.2; unfold leS at z0; obtain ⟨z1, z2, z3⟩ := z0; clear hSw; go_simp; try (with_reducible rfl))
 (try simp only [Act.put, List.setIfInBounds_toArray, List.set_cons_zero, List.set_cons_succ])
 refine wpAnyX_takeBM (m := 8) (i := 6) (v := ?_) rfl (by kernel_rfl) (by kernel_rfl) (by decide) (by decide +kernel) (by decide +kernel) (fun _ _ _ h => h) (by kernel_rfl) (Or.inl ⟨by rfl, ?_⟩) (SX.both trivial hs.out) ?_
 rotate_left
 ·(intro w hSw; have z0 := hSw.2; unfold leS at z0; obtain ⟨z1, z2, z3⟩ := z0; clear hSw; go_simp; try (with_reducible rfl))
 (try simp only [Act.put, List.setIfInBounds_toArray, List.set_cons_zero, List.set_cons_succ])
 refine wpAnyX_one (j := 7) (by decide +kernel) rfl (fun K' hK => ?_)
 go_simp
 have H9 : Hid (BdM w0 N bb bo OC RF vo (.slice da m dc) NL DL (wd.alloc zTrB) /\ (wd.alloc zTrB).heap[bt]? = some (.cells #[.int .i64 tk, .string tx] 29)) := ⟨H8.out.1.later (below_alloc _ _), ((below_alloc wd zTrB).block _ (lt_of_block H8.out.2)).trans H8.out.2⟩
 have hb9 : (wd.alloc zTrB).heap[wd.heap.size]? = some zTrB := heap_alloc_new _ _
 refine hK.out _ _ (SX.both trivial (HR.out _ H9.out)) ?_
 clear hK K' H8 hs
 generalize wd.alloc zTrB = w7 at *
 generalize wd.heap.size = b9 at *
 (try simp only [Act.put, List.setIfInBounds_toArray, List.set_cons_zero, List.set_cons_succ])
 refine wpAnyX_one (j := 8) (by decide +kernel) rfl (fun K' hK => ?_)
 refine step_ro_append rkTree (by rfl) _ _ (by rfl) (.slice da m dc) DL (by rfl) H9.out.1.td b9 1 TV.none (by rfl) (fun j u hu => ?_) (by rw [HMM.out]; exact HDL.out) ?_
 ·rw [cellq_any hb9, <- hu]
  simp [trCells, TV.none, TV.prod, TV.kind, TV.tx, TV.ka, TV.kc, TV.kids, TV.pay, TV.mk]
  rfl
 intro a5 n5 c5 w8 ro hg
 obtain ⟨g, c0, eg, -, -⟩ := RO.cell (f := trCells) (fun _ => rfl) ro (i := DL.length) (by simp)
 simp only [Value.slice.injEq, List.length_append, List.length_singleton, HMM.out] at eg
 obtain ⟨rfl, rfl, rfl⟩ := eg
 have FIN : Hid (BdM w0 N bb bo OC RF vo (.slice (some ⟨g, 0, none⟩) (m + 1) c5) NL (DL ++ [lfT tk tx]) ((set4 w8 g (m * 4) (lfT tk tx)).setCell ⟨bb, bo + 1, none⟩ (.slice (some ⟨g, 0, none⟩) (m + 1) c5))) := by
  have := H9.out.1.addL tk tx hg ro
  rwa [HMM.out] at this
 have HGB : Hid (g ≠ bb) := fun e => by
  subst e
  rcases hg.moved with q | ⟨k, q, hk⟩
  ·exact H9.out.1.bb_d (by rw [<- q]; rfl)
  ·obtain ⟨C, ty, hC, -⟩ := H9.out.1.bk
   have := lt_of_block hC
   simp only [Value.ownBlock, Option.map_some, Option.some.injEq] at q
   omega
 have HW8 : Hid (w8.heap[bb]? = w7.heap[bb]?) := by
  obtain ⟨C, ty, hC, -⟩ := H9.out.1.bk
  exact hg.grown.block bb (lt_of_block hC) fun q => H9.out.1.bb_d q.symm
 have tb8 : w8.there g (m * 4) 4 := by
  have := ro_there ro
  rwa [HMM.out] at this
 have s20 : ((set4 w8 g (m * 4) (lfT tk tx)).cell? ⟨bb, bo + 1, none⟩ = some (.slice da m dc) /\ (set4 w8 g (m * 4) (lfT tk tx)).frozen? ⟨bb, bo + 1, none⟩ = false) /\ (w8.cell? ⟨bb, bo + 1, none⟩ = some (.slice da m dc) /\ w8.frozen? ⟨bb, bo + 1, none⟩ = false) := by
  have e := (set4_other w8 g (m * 4) (lfT tk tx) bb (Ne.symm HGB.out)).trans HW8.out
  refine ⟨⟨(World.cell?_of_block e).trans H9.out.1.cd.1, ?_⟩, (World.cell?_of_block HW8.out).trans H9.out.1.cd.1, ?_⟩
  ·have := H9.out.1.cd.2
   simp only [World.frozen?] at this ⊢
   rw [e]; exact this
  ·have := H9.out.1.cd.2
   simp only [World.frozen?] at this ⊢
   rw [HW8.out]; exact this
 have th8 : (w8.setCell ⟨bb, bo + 1, none⟩ (.slice (some ⟨g, 0, none⟩) (m + 1) c5)).there g (m * 4) 4 := fun j hj => by
  obtain ⟨t1, t2⟩ := tb8 j hj
  have e : (w8.setCell ⟨bb, bo + 1, none⟩ (.slice (some ⟨g, 0, none⟩) (m + 1) c5)).heap[g]? = w8.heap[g]? := Below.heap_setCell _ _ _ _ HGB.out
  refine ⟨by rw [World.cell?_of_block e]; exact t1, ?_⟩
  simp only [World.frozen?] at t2 ⊢
  rw [e]; exact t2
 have SW : Hid (BdM w0 N bb bo OC RF vo (.slice (some ⟨g, 0, none⟩) (m + 1) c5) NL (DL ++ [lfT tk tx]) (set4 (w8.setCell ⟨bb, bo + 1, none⟩ (.slice (some ⟨g, 0, none⟩) (m + 1) c5)) g (m * 4) (lfT tk tx))) := by
  show BdM _ _ _ _ _ _ _ _ _ _ _
  rw [set_swapB _ (Ne.symm HGB.out)]; exact FIN.out
 refine hK.out _ _ (SX.one trivial (by kernel_rfl)) ?_
 clear hK K' hg ro hb9
 (try simp only [Act.put, List.setIfInBounds_toArray, List.set_cons_zero, List.set_cons_succ])
 refine wpAnyX_takeBP (m := 8) (i := 9) (v := ?_) rfl (by kernel_rfl) (by decide) (by decide +kernel) (by decide +kernel) (fun _ _ _ h => h) (Or.inl ⟨by rfl, ?_⟩) (SX.one trivial (by kernel_rfl)) ?_
 rotate_left
 ·(intro w _; go_simp; try (with_reducible rfl))
 (try simp only [Act.put, List.setIfInBounds_toArray, List.set_cons_zero, List.set_cons_succ])
 refine wpAnyX_takeBP (m := 8) (i := 11) (v := ?_) rfl (by kernel_rfl) (by decide) (by decide +kernel) (by decide +kernel) (fun _ _ _ h => h) (Or.inl ⟨by rfl, ?_⟩) (SX.one trivial (by kernel_rfl)) ?_
 rotate_left
 ·(intro w _; go_simp; try (with_reducible rfl))
 (try simp only [Act.put, List.setIfInBounds_toArray, List.set_cons_zero, List.set_cons_succ])
 refine wpAnyX_takeBP (m := 8) (i := 12) (v := ?_) rfl (by kernel_rfl) (by decide) (by decide +kernel) (by decide +kernel) (fun _ _ _ h => h) (Or.inl ⟨by rfl, ?_⟩) (SX.one trivial (by kernel_rfl)) ?_
 rotate_left
 ·(intro w _; go_simp; try (with_reducible rfl))
 (try simp only [Act.put, List.setIfInBounds_toArray, List.set_cons_zero, List.set_cons_succ])
 refine pickT (l := [10, 13]) (by decide +kernel) (by simp) (fun j hj => ?_)
 simp only [List.mem_cons, List.not_mem_nil, or_false] at hj
 rcases hj with hj | hj <;> rw [hj]
 ·refine ⟨_, rfl, fun K' hK => ?_⟩
  refine step_storeO rfl 32 (.tmp 13) (.tmp 9) rfl g (m * 4) #[.int .i64 (-1), .int .i64 tk, .string tx, .slice none 0 0] rfl rfl tb8 (by kernel_rfl) (by kernel_rfl) ?_
  have e7 : w8.setCells g (m * 4) (#[Value.int .i64 (-1), .int .i64 tk, .string tx, .slice none 0 0] : Array Value).toList = set4 w8 g (m * 4) (lfT tk tx) := rfl
  rw [e7]
  clear e7
  refine hK.out _ _ (SX.one trivial (by kernel_rfl)) ?_
  clear hK K' SW
  (try simp only [Act.put, List.setIfInBounds_toArray, List.set_cons_zero, List.set_cons_succ])
  obtain ⟨⟨s1, s2⟩, -⟩ := s20
  generalize set4 w8 g (m * 4) (lfT tk tx) = w9 at *
  refine wpAnyX_one (j := 13) (by decide +kernel) rfl (fun K' hK => ?_)
  go_simp
  refine hK.out _ _ (SX.one trivial (by kernel_rfl)) ?_
  clear hK K'
  (try simp only [Act.put, List.setIfInBounds_toArray, List.set_cons_zero, List.set_cons_succ])
  refine wpAnyX_done (by decide +kernel) ?_
  generalize w9.setCell ⟨bb, bo + 1, none⟩ (.slice (some ⟨g, 0, none⟩) (m + 1) c5) = w10 at *
  clear s1 s2 tb8 th8
  go_wp2_with (go_at_call 104; refine (RS.out _ _ FIN.out).mono ?_; rintro e w11 ⟨rfl, b11⟩; have H11 : Hid (BdS w0 N bb bo OC RF (clU2 (adA A (lfT tk tx))) w11) := b11; clear b11)
  refine bodyPost_end (results_none rfl _ _ _) rfl ?_
  exact ⟨rfl, H11.out⟩
 ·refine ⟨_, rfl, fun K' hK => ?_⟩
  obtain ⟨-, s1, s2⟩ := s20
  go_simp
  refine hK.out _ _ (SX.one trivial (by kernel_rfl)) ?_
  clear hK K' FIN
  (try simp only [Act.put, List.setIfInBounds_toArray, List.set_cons_zero, List.set_cons_succ])
  refine wpAnyX_one (j := 10) (by decide +kernel) rfl (fun K' hK => ?_)
  refine step_storeO rfl 32 (.tmp 13) (.tmp 9) rfl g (m * 4) #[.int .i64 (-1), .int .i64 tk, .string tx, .slice none 0 0] rfl rfl th8 (by kernel_rfl) (by kernel_rfl) ?_
  have e7 : (w8.setCell ⟨bb, bo + 1, none⟩ (.slice (some ⟨g, 0, none⟩) (m + 1) c5)).setCells g (m * 4) (#[Value.int .i64 (-1), .int .i64 tk, .string tx, .slice none 0 0] : Array Value).toList = set4 (w8.setCell ⟨bb, bo + 1, none⟩ (.slice (some ⟨g, 0, none⟩) (m + 1) c5)) g (m * 4) (lfT tk tx) := rfl
  rw [e7]
  clear e7
  refine hK.out _ _ (SX.one trivial (by kernel_rfl)) ?_
  clear hK K'
  (try simp only [Act.put, List.setIfInBounds_toArray, List.set_cons_zero, List.set_cons_succ])
  refine wpAnyX_done (by decide +kernel) ?_
  generalize set4 (w8.setCell ⟨bb, bo + 1, none⟩ (.slice (some ⟨g, 0, none⟩) (m + 1) c5)) g (m * 4) (lfT tk tx) = w10 at *
  clear s1 s2 tb8 th8
  go_wp2_with (go_at_call 104; refine (RS.out _ _ SW.out).mono ?_; rintro e w11 ⟨rfl, b11⟩; have H11 : Hid (BdS w0 N bb bo OC RF (clU2 (adA A (lfT tk tx))) w11) := b11; clear b11)
  refine bodyPost_end (results_none rfl _ _ _) rfl ?_
  exact ⟨rfl, H11.out⟩
end
end Go.Proofs.YtobhemaikomdaaaGreatDoor
