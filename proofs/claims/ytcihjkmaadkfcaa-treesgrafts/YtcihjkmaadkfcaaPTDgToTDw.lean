import Derived.Test.YtcihjkmaadkfcaaPRTwoToTSm
import Derived.Test.YtcihjkmaadkfcaaPTW7
namespace Go.Proofs.Ytcihjkmaadkfcaa
set_option linter.unusedVariables false
open Go.RowKit
abbrev SG := Int × Int × ByteArray × Nat
theorem samP_list : ∀ (l m : List TV), l.length = m.length -> (∀ i (h : i < l.length) (h' : i < m.length), (preT l[i]).map sgV = (preT m[i]).map sgV) -> (preL l).map sgV = (preL m).map sgV
 | [], [], _, _ => rfl
 | [], _ :: _, h, _ => by simp at h
 | _ :: _, [], h, _ => by simp at h
 | x :: l, y :: m, h, hs => by
  have e1 := hs 0 (by simp) (by simp)
  have e2 := samP_list l m (by simpa using h) (fun i h1 h2 => hs (i + 1) (by simpa using h1) (by simpa using h2))
  simp only [List.getElem_cons_zero] at e1
  have c : ∀ (a : TV) (l : List TV), preL (a :: l) = preT a ++ preL l := fun a l => by simp [preL]
  rw [c, c, List.map_append, List.map_append, e1, e2]
theorem sam_pre (a : TV) : ∀ b, samV a b -> (preT a).map sgV = (preT b).map sgV := by
 induction a using TV.ind with
 | _ a ih =>
  intro b h
  obtain ⟨h1, h2⟩ := (samV_iff a b).1 h
  rw [preT_eq, preT_eq, List.map_cons, List.map_cons, h1, samP_list a.kids b.kids (sgV_len h1) fun i hi hi' => ih _ (List.getElem_mem hi) _ (h2 i hi hi')]
def lfS (l : List SG) : List (Int × ByteArray) := (l.filter fun x => decide (x.1 = -1)).map fun x => (x.2.1, x.2.2.1)
theorem lfS_app (l m : List SG) : lfS (l ++ m) = lfS l ++ lfS m := by simp [lfS]
theorem leaf_sg (l : List TV) : (leafT l).map tkV = lfS (l.map sgV) := by
 unfold leafT lfS
 rw [List.filter_map, List.map_map]
 rfl
theorem sg_at {π : List Nat} {t : TV} (hok : okP π t) : ((preT t).map sgV)[nuP π t]? = some (sgV (getAt π t)) := by
 obtain ⟨A, B, h1, h2, _⟩ := pre_set π t hok
 rw [h2, <- h1, preT_eq]
 simp
theorem lfS_take {l : List SG} {p : Nat} {x : SG} (h : l[p]? = some x) : (lfS (l.take (p + 1))).length = (lfS (l.take p)).length + (if x.1 = -1 then 1 else 0) := by
 have hp : p < l.length := by
  rcases Nat.lt_or_ge p l.length with h' | h'
  ·exact h'
  ·rw [List.getElem?_eq_none h'] at h; cases h
 rw [List.getElem?_eq_getElem hp] at h
 have e : l.take (p + 1) = l.take p ++ [x] := by rw [<- List.take_append_getElem hp, Option.some.inj h]
 rw [e, lfS_app, List.length_append]
 congr 1
 by_cases hx : x.1 = -1 <;> simp [lfS, hx]
theorem lfS_len (l : List SG) : (lfS l).length <= l.length := by
 unfold lfS
 rw [List.length_map]
 exact List.length_filter_le _ _
theorem infoTok_parts : ∃ i, Try.prog.info? 23 = some i /\ i.size = 2 := by
 have h : (Try.prog.info? 23).map (fun i => i.size) = some 2 := by kernel_rfl
 cases e : Try.prog.info? 23 with
 | none => rw [e] at h; cases h
 | some i =>
  rw [e] at h
  simp at h
  exact ⟨i, rfl, h⟩
def ShT (la : Option Addr) (lc : Nat) : Prop := (la = none /\ lc = 0) ∨ ∃ b o, la = some ⟨b, o, none⟩
theorem TKt.shp {w : World} {a : Option Addr} {n c : Nat} {l : List TV} (h : TKt w (.slice a n c) l) : ShT a c /\ n <= c := by
 rcases h.2 with ⟨e, h0⟩ | ⟨g, cap, cur, e, _, _, h3, _⟩
 ·simp only [Value.slice.injEq] at e
  exact ⟨.inl ⟨e.1, e.2.2⟩, by omega⟩
 ·simp only [Value.slice.injEq] at e
  obtain ⟨rfl, rfl, rfl⟩ := e
  exact ⟨.inr ⟨g, 0, rfl⟩, h3⟩
theorem TkRow.sub {w : World} {b o lo n : Nat} {l : List (Int × ByteArray)} (h : TkRow w (some ⟨b, o, none⟩) l) (hl : lo + n <= l.length) : TkRow w (some ⟨b, o + lo * 2, none⟩) ((l.drop lo).take n) := fun hne => by
 have hn : l ≠ [] := fun e => hne (by rw [e]; simp)
 obtain ⟨b', o', e, hb, hc⟩ := h hn
 simp only [Option.some.injEq, Addr.mk.injEq, and_true] at e
 obtain ⟨rfl, rfl⟩ := e
 refine ⟨b, o + lo * 2, rfl, hb, fun i hi => ?_⟩
 have hi' : i < n := by simp at hi; omega
 have eg : ((l.drop lo).take n).getD i (0, ByteArray.empty) = l.getD (lo + i) (0, ByteArray.empty) := by
  simp [List.getD, hi', List.getElem?_drop]
 have := hc (lo + i) (by omega)
 rw [eg, show o + lo * 2 + i * 2 = o + (lo + i) * 2 by omega]
 exact this
theorem sliced_tk {la : Option Addr} {lc lo hi : Nat} {L : List (Int × ByteArray)} (h1 : lo <= hi) (h2 : hi <= L.length) (h3 : L.length <= lc) (hs : ShT la lc) : ∃ ya c', sliced la lo hi lc 2 = .slice ya (hi - lo) c' /\ ∀ w, TkRow w la L -> TkRow w ya ((L.drop lo).take (hi - lo)) := by
 rcases hs with ⟨rfl, rfl⟩ | ⟨b, o, rfl⟩
 ·have hL : L = [] := List.eq_nil_of_length_eq_zero (by omega)
  subst hL
  refine ⟨none, 0 - lo, ?_, fun w _ => by intro h; simp at h⟩
  unfold sliced
  split <;> simp
 ·by_cases hcp : lc = lo
  ·refine ⟨some ⟨b, o, none⟩, lc - lo, by simp [sliced, hcp], fun w h => ?_⟩
   have : hi - lo = 0 := by omega
   rw [this]
   intro h'
   simp at h'
  ·refine ⟨some ⟨b, o + lo * 2, none⟩, lc - lo, by simp [sliced, hcp, add_none], fun w h => TkRow.sub h (by omega)⟩
theorem tok_to (la : Option Addr) (lc len i : Nat) (hi : i <= lc) (w : World) : (Instr.slice 35 (.slice la len lc) none (some (.int .i64 (i : Int))) none).run Try.prog w = .ok (sliced la 0 i lc 2) w := by
 obtain ⟨i0, hinf, hz1⟩ := infoTok_parts
 have hu : Try.prog.underlying 35 = some (.slice (Try.prog.elem 35)) := by kernel_rfl
 have he : Try.prog.elem 35 = 23 := by kernel_rfl
 have := run_slice_h (P := Try.prog) (w := w) 35 la len lc hu .i64 (i : Int) (by omega) (by omega)
 rw [this, he]
 simp [sizeOf, typeInfo, hinf, hz1]
theorem tok_fro (la : Option Addr) (lc len i : Nat) (hi : i <= len) (w : World) : (Instr.slice 35 (.slice la len lc) (some (.int .i64 (i : Int))) none none).run Try.prog w = .ok (sliced la i len lc 2) w := by
 obtain ⟨i0, hinf, hz1⟩ := infoTok_parts
 have hu : Try.prog.underlying 35 = some (.slice (Try.prog.elem 35)) := by kernel_rfl
 have he : Try.prog.elem 35 = 23 := by kernel_rfl
 have := run_slice_l (P := Try.prog) (w := w) 35 la len lc hu .i64 (i : Int) (by omega) (by omega)
 rw [this, he]
 simp [sizeOf, typeInfo, hinf, hz1]
theorem tok_mid (la : Option Addr) (lc len i j : Nat) (hi : i <= j) (hj : j <= lc) (w : World) : (Instr.slice 35 (.slice la len lc) (some (.int .i64 (i : Int))) (some (.int .i64 (j : Int))) none).run Try.prog w = .ok (sliced la i j lc 2) w := by
 obtain ⟨i0, hinf, hz1⟩ := infoTok_parts
 have hu : Try.prog.underlying 35 = some (.slice (Try.prog.elem 35)) := by kernel_rfl
 have he : Try.prog.elem 35 = 23 := by kernel_rfl
 have := run_slice_lh (P := Try.prog) (w := w) 35 la len lc hu .i64 .i64 (i : Int) (j : Int) (by omega) (by omega) (by omega)
 rw [this, he]
 simp [sizeOf, typeInfo, hinf, hz1]
set_option linter.unusedSimpArgs false in
set_option maxRecDepth 100000 in
set_option maxHeartbeats 4000000 in
theorem graft_no (t s : TV) (place : Int) (hpl : place < 0 ∨ (szT t : Int) <= place) (w : World) (ht : TAt w t) (hs : TAt w s) (hsz : szT t <= 100000000) : Calls Try.prog 8 #[t.val, .int .i64 place, s.val] w fun e w' => e = .returned (.tuple #[TV.none.val, .int .i64 4]) /\ Below w.heap.size w w' := by
 have S0 : Hid (GfS w.heap.size w t s (((w.alloc (tBox t)).alloc (tBox s)).alloc zTree)) := gfs_start t s w ht hs
 have CF : Hid (∀ w1, GfS w.heap.size w t s w1 -> Calls Try.prog 21 #[.pointer (some ⟨w.heap.size, 0, none⟩), .int .i64 place] w1 fun e w' => e = .returned (.pointer none) /\ GfS w.heap.size w t s w') := fun w1 h1 => by
  have := find_W w.heap.size 0 t place w1 h1.tt h1.ta hsz
  rw [fd_out hpl] at this
  exact this.mono fun e w' ⟨e1, e2⟩ => ⟨e1, h1.later (by have := h1.sz; omega) e2⟩
 clear ht hs hsz hpl
 go_enter Try.func8, Try.ntmps8
 go_upto_region 1 with fail
 refine wp_world (fun w' => GfS w.heap.size w t s w') S0.out fun w1 h1 => ?_
 have H1 : Hid (GfS w.heap.size w t s w1) := h1
 clear h1 S0
 go_upto_region 2 with (go_at_call 21; refine (CF.out _ H1.out).mono ?_; rintro e w2 ⟨rfl, h2⟩; have H2 : Hid (GfS w.heap.size w t s w2) := h2; clear h2)
 clear H1 CF
 obtain ⟨d0, d1, d2, d3, f0, f1, f2, f3⟩ := z_cells H2.out.rz
 have F3 : Hid (TBx (set4 w2 (w.heap.size + 1 + 1) 0 .none) (w.heap.size + 1 + 1) 0 .none /\ Below w.heap.size w (set4 w2 (w.heap.size + 1 + 1) 0 .none)) := ⟨set4_tbx .none d0 d1 d2 d3 (lt_of_block H2.out.rz), set4_below H2.out.bel 0 .none (by omega)⟩
 clear H2
 go_wp2
 change bodyPost _ _ _ _ _ (set4 w2 (w.heap.size + 1 + 1) 0 .none)
 generalize set4 w2 (w.heap.size + 1 + 1) 0 .none = w4 at *
 have x0 := F3.out.1.c0
 have x1 := F3.out.1.c1
 have x2 := F3.out.1.c2
 have x3 := F3.out.1.c3
 simp only [Nat.zero_add] at x1 x2 x3
 refine bodyPost_ret (v := .tuple #[TV.none.val, .int .i64 4]) (by simp [results, Try.results8, go_sem, x0, x1, x2, x3]) rfl ?_
 exact ⟨rfl, F3.out.2⟩
theorem ms_new (w : World) {n : Nat} (hz : w.heap.size = n) : MSt w n [] (((((w.alloc (iBox 0)).alloc (iBox 0)).alloc (iBox 0)).alloc (iBox 0)).alloc (iBox 0)) := by
 subst hz
 have k : ∀ (j : Nat) (o o' : Obj) (v : World), v.heap[j]? = some o -> (v.alloc o').heap[j]? = some o := fun j o o' v h => ((below_alloc v o').block j (lt_of_block h)).trans h
 have e : ∀ (v : World) (o : Obj), (v.alloc o).heap.size = v.heap.size + 1 := fun v o => by simp
 have bl : ∀ (v : World) (o : Obj), Below w.heap.size w v -> Below w.heap.size w (v.alloc o) := fun v o h => h.trans ((below_alloc v o).mono h.size)
 refine ⟨bl _ _ (bl _ _ (bl _ _ (bl _ _ (bl _ _ (Below.refl _ _))))), Nat.le_refl _, ?_, ?_, ?_, ?_, ?_⟩
 ·exact k _ _ _ _ (k _ _ _ _ (k _ _ _ _ (k _ _ _ _ (heap_alloc_new w (iBox 0)))))
 ·have := heap_alloc_new (w.alloc (iBox 0)) (iBox 0)
  rw [e] at this
  exact k _ _ _ _ (k _ _ _ _ (k _ _ _ _ this))
 ·have := heap_alloc_new ((w.alloc (iBox 0)).alloc (iBox 0)) (iBox 0)
  rw [e, e] at this
  exact k _ _ _ _ (k _ _ _ _ this)
 ·have := heap_alloc_new (((w.alloc (iBox 0)).alloc (iBox 0)).alloc (iBox 0)) (iBox 0)
  rw [e, e, e] at this
  exact k _ _ _ _ this
 ·have := heap_alloc_new ((((w.alloc (iBox 0)).alloc (iBox 0)).alloc (iBox 0)).alloc (iBox 0)) (iBox 0)
  rw [e, e, e, e] at this
  exact this
set_option linter.unusedSimpArgs false in
set_option maxRecDepth 100000 in
set_option maxHeartbeats 4000000 in
theorem measure_W (t : TV) (w : World) (ht : TAt w t) (hsz : szT t <= 100000000) : Calls Try.prog 6 #[t.val] w fun e w' => e = .returned (.tuple #[.int .i64 (szT t : Int), .int .i64 ((leafT (preT t)).length : Int), .int .i64 (msU (evT w.heap.size 0 t)).ht]) /\ Below w.heap.size w w' := by
 have hz : (w.alloc (tBox t)).heap.size = w.heap.size + 1 := by simp
 have hba : Below w.heap.size w (w.alloc (tBox t)) := below_alloc _ _
 have CW : Hid (∀ w1, MSt (w.alloc (tBox t)) (w.heap.size + 1) [] w1 -> Calls Try.prog 17 #[.pointer (some ⟨w.heap.size, 0, none⟩), fnV 18 #[.pointer (some ⟨w.heap.size + 1, 0, none⟩), .pointer (some ⟨w.heap.size + 1 + 1 + 1 + 1, 0, none⟩), .pointer (some ⟨w.heap.size + 1 + 1, 0, none⟩), .pointer (some ⟨w.heap.size + 1 + 1 + 1 + 1 + 1, 0, none⟩), .pointer (some ⟨w.heap.size + 1 + 1 + 1, 0, none⟩)], fnV 20 #[.pointer (some ⟨w.heap.size + 1 + 1 + 1 + 1, 0, none⟩), .pointer (some ⟨w.heap.size + 1 + 1 + 1 + 1 + 1, 0, none⟩)]] w1 fun e w' => e = .returned (.tuple #[]) /\ MSt (w.alloc (tBox t)) (w.heap.size + 1) (evT w.heap.size 0 t) w') := fun w1 h1 => by
  refine (walkAround_R (St := MSt (w.alloc (tBox t)) (w.heap.size + 1)) (Fin := fun _ => False) ⟨ent_measure1, ent_measure2, tbx_new w t, ht.later hba, hsz, fun D w w' h hn => h.still hn, fun D w h => h.bel, fun D p q t' R hD hT w1 h1 => ?_, fun D p q t' R hD hT w1 h1 => ?_⟩ _ h1).mono ?_
  ·exact (measure1_W _ _ D p q t' w1 h1 hT (by have := ev_bound hD hsz; omega)).mono fun e w' ⟨e1, e2, e3⟩ => ⟨true, e1, e2, fun _ => e3, fun q => by cases q⟩
  ·exact measure2_W _ _ D p q t' w1 h1 hT (by have := ev_bound hD hsz; omega)
  ·rintro e w' ⟨e1, e2 | e2⟩
   ·exact ⟨e1, e2⟩
   ·exact e2.elim
 have HE : Hid (∀ w', MSt (w.alloc (tBox t)) (w.heap.size + 1) (evT w.heap.size 0 t) w' -> w'.cell? ⟨w.heap.size + 1, 0, none⟩ = some (.int .i64 (szT t : Int)) /\ w'.cell? ⟨w.heap.size + 1 + 1, 0, none⟩ = some (.int .i64 ((leafT (preT t)).length : Int)) /\ w'.cell? ⟨w.heap.size + 1 + 1 + 1, 0, none⟩ = some (.int .i64 (msU (evT w.heap.size 0 t)).ht) /\ Below w.heap.size w w') := fun w' h => by
  obtain ⟨q1, q2⟩ := msU_pl (evT w.heap.size 0 t)
  rw [ev_pre] at q1 q2
  rw [preT_len] at q1
  refine ⟨?_, ?_, (ib_cell h.ht).1, hba.trans (h.bel.mono hba.size)⟩
  ·rw [<- q1]; exact (ib_cell h.pl).1
  ·rw [<- q2]; exact (ib_cell h.lf).1
 clear ht hsz
 generalize (msU (evT w.heap.size 0 t)).ht = hh at *
 generalize (leafT (preT t)).length = nl at *
 generalize szT t = np at *
 go_enter Try.func6, Try.ntmps6
 go_upto_region 3 with fail
 refine wp_world (fun w' => MSt (w.alloc (tBox t)) (w.heap.size + 1) [] w') (ms_new (w.alloc (tBox t)) hz) fun w1 h1 => ?_
 have H1 : Hid (MSt (w.alloc (tBox t)) (w.heap.size + 1) [] w1) := h1
 clear h1 hz hba
 go_wp2_with (go_at_call 17; refine (CW.out _ H1.out).mono ?_; rintro e w2 ⟨rfl, h2⟩; obtain ⟨c0, c1, c2, bl⟩ := HE.out w2 h2; have R : Hid (Below w.heap.size w w2) := bl; clear h2 bl)
 go_quiet (fail)
 go_wp2
 refine bodyPost_ret (results_tmp3 rfl _ _ _) rfl ?_
 exact ⟨rfl, R.out.trans ((below_drewN (Below.refl _ _) _).mono R.out.size)⟩
structure EnvT (w0 : World) (L : List (Nat × TV)) (w : World) : Prop where
 bel : Below w0.heap.size w0 w
 bx : ∀ x ∈ L, w.heap[x.1]? = some (tBox x.2) /\ TAt w x.2
theorem EnvT.later {w0 : World} {L : List (Nat × TV)} {w w' : World} (h : EnvT w0 L w) (hb : Below w.heap.size w w') : EnvT w0 L w' :=
 ⟨h.bel.trans (hb.mono h.bel.size), fun x hx => ⟨(hb.block _ (lt_of_block (h.bx x hx).1)).trans (h.bx x hx).1, (h.bx x hx).2.later hb⟩⟩
theorem EnvT.add {w0 : World} {L : List (Nat × TV)} {w : World} {U : TV} (h : EnvT w0 L w) (hU : TAt w U) : EnvT w0 ((w.heap.size, U) :: L) (w.alloc (tBox U)) := by
 have h2 := h.later (below_alloc w (tBox U))
 refine ⟨h2.bel, fun x hx => ?_⟩
 rcases List.mem_cons.1 hx with rfl | hx
 ·exact ⟨heap_alloc_new _ _, hU.later (below_alloc _ _)⟩
 ·exact h2.bx x hx
theorem env_start (t s : TV) (w : World) (ht : TAt w t) (hs : TAt w s) : EnvT w [(w.heap.size, t), (w.heap.size + 1, s)] ((w.alloc (tBox t)).alloc (tBox s)) := by
 obtain ⟨h1, h2, h3⟩ := two_allocT w (tBox t) (tBox s)
 refine ⟨h1, fun x hx => ?_⟩
 simp only [List.mem_cons, List.not_mem_nil, or_false] at hx
 rcases hx with rfl | rfl
 ·exact ⟨h2, ht.later h1⟩
 ·exact ⟨h3, hs.later h1⟩
theorem EnvT.get {w0 : World} {L : List (Nat × TV)} {w : World} (h : EnvT w0 L w) {k : Nat} {t : TV} (hm : (k, t) ∈ L) : w.heap[k]? = some (tBox t) /\ TAt w t := h.bx _ hm
set_option linter.unusedSimpArgs false in
set_option maxRecDepth 100000 in
set_option maxHeartbeats 8000000 in
theorem grafts_no (t s : TV) (place : Int) (hpl : place < 0 ∨ (szT t : Int) <= place) (w : World) (ht : TAt w t) (hs : TAt w s) (hsz : szT t <= 1048576) (hss : szT s <= 1048576) : Calls Try.prog 3 #[t.val, .int .i64 place, s.val] w fun e w' => e = .returned (.bool true) /\ Below w.heap.size w w' := by
 have S0 : Hid (EnvT w [(w.heap.size, t), (w.heap.size + 1, s)] ((w.alloc (tBox t)).alloc (tBox s))) := env_start t s w ht hs
 have CM : Hid (∀ w1, TAt w1 t -> Calls Try.prog 6 #[t.val] w1 fun e w' => (∃ x y, e = .returned (.tuple #[.int .i64 (szT t : Int), .int .i64 x, .int .i64 y])) /\ Below w1.heap.size w1 w') := fun w1 h => (measure_W t w1 h (by omega)).mono fun e w' ⟨e1, e2⟩ => ⟨⟨_, _, e1⟩, e2⟩
 have CA : Hid (∀ w1, TAt w1 t -> Calls Try.prog 7 #[t.val, .int .i64 place] w1 fun e w' => e = .returned (.tuple #[TV.none.val, .int .i64 4]) /\ Below w1.heap.size w1 w') := fun w1 h => at_no t place hpl w1 h (by omega)
 have CG : Hid (∀ w1, TAt w1 t -> TAt w1 s -> Calls Try.prog 8 #[t.val, .int .i64 place, s.val] w1 fun e w' => e = .returned (.tuple #[TV.none.val, .int .i64 4]) /\ Below w1.heap.size w1 w') := fun w1 h h' => graft_no t s place hpl w1 h h' (by omega)
 have HP : Hid (place < 0 ∨ (szT t : Int) <= place) := hpl
 clear ht hs hsz hss hpl
 go_enter Try.func3, Try.ntmps3
 go_upto_region 1 with fail
 refine wp_world (fun w' => EnvT w [(w.heap.size, t), (w.heap.size + 1, s)] w') S0.out fun w1 h1 => ?_
 have H1 : Hid (EnvT w [(w.heap.size, t), (w.heap.size + 1, s)] w1) := h1
 clear h1 S0
 go_upto_region 3 with (go_at_call 5; refine (works_W _).mono ?_; rintro e w2 ⟨rfl, b2⟩; have H2 : Hid (EnvT w [(w.heap.size, t), (w.heap.size + 1, s)] w2) := H1.out.later b2; clear b2)
 clear H1
 obtain ⟨c0, c1, c2, c3⟩ := tb_cells (H2.out.get (k := w.heap.size) (t := t) (by simp)).1
 go_upto_region 4 with (go_at_call 6; refine (CM.out _ (H2.out.get (k := w.heap.size) (t := t) (by simp)).2).mono ?_; rintro e w3 ⟨⟨x, y, rfl⟩, b3⟩; have H3 : Hid (EnvT w [(w.heap.size, t), (w.heap.size + 1, s)] w3) := H2.out.later b3; clear b3 c0 c1 c2 c3)
 clear H2
 obtain ⟨c0, c1, c2, c3⟩ := tb_cells (H3.out.get (k := w.heap.size) (t := t) (by simp)).1
 go_upto_region 5 with (go_at_call 7; refine (CA.out _ (H3.out.get (k := w.heap.size) (t := t) (by simp)).2).mono ?_; rintro e w4 ⟨rfl, b4⟩; have H4 : Hid (EnvT w [(w.heap.size, t), (w.heap.size + 1, s)] w4) := H3.out.later b4; clear b4 c0 c1 c2 c3)
 clear H3
 refine wp_world (fun w' => EnvT w [(w.heap.size, t), (w.heap.size + 1, s)] w') (H4.out.later (below_alloc _ _)) fun w5 h5 => ?_
 have H5 : Hid (EnvT w [(w.heap.size, t), (w.heap.size + 1, s)] w5) := h5
 clear h5 H4
 obtain ⟨c0, c1, c2, c3⟩ := tb_cells (H5.out.get (k := w.heap.size) (t := t) (by simp)).1
 obtain ⟨d0, d1, d2, d3⟩ := tb_cells (H5.out.get (k := w.heap.size + 1) (t := s) (by simp)).1
 go_upto_region 6 with (go_at_call 8; refine (CG.out _ (H5.out.get (k := w.heap.size) (t := t) (by simp)).2 (H5.out.get (k := w.heap.size + 1) (t := s) (by simp)).2).mono ?_; rintro e w6 ⟨rfl, b6⟩; have H6 : Hid (EnvT w [(w.heap.size, t), (w.heap.size + 1, s)] w6) := H5.out.later b6; clear b6 c0 c1 c2 c3 d0 d1 d2 d3)
 clear H5
 have R : Hid (Below w.heap.size w (w6.alloc (tBox .none))) := H6.out.bel.trans ((below_alloc _ _).mono H6.out.bel.size)
 clear H6
 by_cases h0 : place < 0
 ·clear HP
  go_wp2
  go_ret
  exact ⟨rfl, R.out⟩
 ·have h1 : (szT t : Int) <= place := by have := HP.out; omega
  clear HP
  go_wp2
  go_ret
  exact ⟨rfl, R.out⟩
end Go.Proofs.Ytcihjkmaadkfcaa
