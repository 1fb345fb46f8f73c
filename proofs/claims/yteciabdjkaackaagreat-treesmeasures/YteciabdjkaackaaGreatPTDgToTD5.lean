import Derived.Test.YteciabdjkaackaaGreatPTD3ToTSm
namespace Go.Proofs.YteciabdjkaackaaGreat
set_option linter.unusedVariables false
open Go.RowKit
abbrev SG := Int × Int × ByteArray × Nat
theorem samP_list : ∀ (l m : List TV), l.length = m.length -> (∀ i (h : i < l.length) (h' : i < m.length), (preT l[i]).map sgV = (preT m[i]).map sgV) -> (preL l).map sgV = (preL m).map sgV
 | [], [], _, _ => rfl
 | [], _ :: _, h, _ => by simp at h
 | _ :: _, [], h, _ => by simp at h
 | x :: l, y :: m, h, hs => by
  have e1 := hs 0 (by simp) (by simp)
  have e2 := samP_list l m (by simpa using h) (fun i h1 h2 => hs (i + 1) (by simpa using h1) (by simpa using h2))
  simp only [List.getElem_cons_zero] at e1
  have c : ∀ (a : TV) (l : List TV), preL (a :: l) = preT a ++ preL l := fun a l => by simp [preL]
  rw [c, c, List.map_append, List.map_append, e1, e2]
theorem sam_pre (a : TV) : ∀ b, samV a b -> (preT a).map sgV = (preT b).map sgV := by
 induction a using TV.ind with
 | _ a ih =>
  intro b h
  obtain ⟨h1, h2⟩ := (samV_iff a b).1 h
  rw [preT_eq, preT_eq, List.map_cons, List.map_cons, h1, samP_list a.kids b.kids (sgV_len h1) fun i hi hi' => ih _ (List.getElem_mem hi) _ (h2 i hi hi')]
def lfS (l : List SG) : List (Int × ByteArray) := (l.filter fun x => decide (x.1 = -1)).map fun x => (x.2.1, x.2.2.1)
theorem leaf_sg (l : List TV) : (leafT l).map tkV = lfS (l.map sgV) := by
 unfold leafT lfS
 rw [List.filter_map, List.map_map]
 rfl
set_option linter.unusedSimpArgs false in
set_option maxRecDepth 100000 in
set_option maxHeartbeats 4000000 in
theorem graft_no (t s : TV) (place : Int) (hpl : place < 0 ∨ (szT t : Int) <= place) (w : World) (ht : TAt w t) (hs : TAt w s) (hsz : szT t <= 100000000) : Calls Tryz.prog 10 #[t.val, .int .i64 place, s.val] w fun e w' => e = .returned (.tuple #[TV.none.val, .int .i64 4]) /\ Below w.heap.size w w' := by
 have S0 : Hid (GfS w.heap.size w t s (((w.alloc (tBox t)).alloc (tBox s)).alloc zTree)) := gfs_start t s w ht hs
 have CF : Hid (∀ w1, GfS w.heap.size w t s w1 -> Calls Tryz.prog 39 #[.pointer (some ⟨w.heap.size, 0, none⟩), .int .i64 place] w1 fun e w' => e = .returned (.pointer none) /\ GfS w.heap.size w t s w') := fun w1 h1 => by
  have := find_W w.heap.size 0 t place w1 h1.tt h1.ta hsz
  rw [fd_out hpl] at this
  exact this.mono fun e w' ⟨e1, e2⟩ => ⟨e1, h1.later (by have := h1.sz; omega) e2⟩
 clear ht hs hsz hpl
 go_enter Tryz.func10, Tryz.ntmps10
 go_upto_region 1 with fail
 refine wp_world (fun w' => GfS w.heap.size w t s w') S0.out fun w1 h1 => ?_
 have H1 : Hid (GfS w.heap.size w t s w1) := h1
 clear h1 S0
 go_upto_region 2 with (go_at_call 39; refine (CF.out _ H1.out).mono ?_; rintro e w2 ⟨rfl, h2⟩; have H2 : Hid (GfS w.heap.size w t s w2) := h2; clear h2)
 clear H1 CF
 obtain ⟨d0, d1, d2, d3, f0, f1, f2, f3⟩ := z_cells H2.out.rz
 have F3 : Hid (TBx (set4 w2 (w.heap.size + 1 + 1) 0 .none) (w.heap.size + 1 + 1) 0 .none /\ Below w.heap.size w (set4 w2 (w.heap.size + 1 + 1) 0 .none)) := ⟨set4_tbx .none d0 d1 d2 d3 (lt_of_block H2.out.rz), set4_below H2.out.bel 0 .none (by omega)⟩
 clear H2
 go_wp2
 change bodyPost _ _ _ _ _ (set4 w2 (w.heap.size + 1 + 1) 0 .none)
 generalize set4 w2 (w.heap.size + 1 + 1) 0 .none = w4 at *
 have x0 := F3.out.1.c0
 have x1 := F3.out.1.c1
 have x2 := F3.out.1.c2
 have x3 := F3.out.1.c3
 simp only [Nat.zero_add] at x1 x2 x3
 refine bodyPost_ret (v := .tuple #[TV.none.val, .int .i64 4]) (by simp [results, Tryz.results10, go_sem, x0, x1, x2, x3]) rfl ?_
 exact ⟨rfl, F3.out.2⟩
end Go.Proofs.YteciabdjkaackaaGreat
