import Derived.Test.YtndbdliaidbocaaPPU0ToPB1
namespace Go.Proofs.Ytndbdliaidbocaa
set_option linter.unusedVariables false
open Go.RowKit
theorem kidF_drop (b o : Nat) (l : List TV) {i : Nat} (hi : i < l.length) : kidF b o i (l.drop i) = (b, o + i * 4, l[i]) :: kidF b o (i + 1) (l.drop (i + 1)) := by
 rw [List.drop_eq_getElem_cons hi, kidF]
theorem kidF_at {b o : Nat} {l : List TV} {i : Nat} (hi : i < l.length) : (b, o + i * 4, l[i]) ∈ kidF b o 0 l := by
 have := kidF_get b o 0 l i hi
 rw [Nat.zero_add] at this
 exact List.mem_of_getElem? this
theorem szL_drop (l : List TV) {i : Nat} (hi : i < l.length) : szL (l.drop i) = szT l[i] + szL (l.drop (i + 1)) := by
 rw [List.drop_eq_getElem_cons hi]
 unfold szL
 rw [List.map_cons, List.sum_cons]
set_option linter.unusedSimpArgs false in
set_option maxRecDepth 100000 in
set_option maxHeartbeats 8000000 in
theorem bare_W (t : TV) (w : World) (ht : TAt w t) (hsz : szT t <= 100000000) : Calls Try.prog 7 #[t.val] w fun e w' => ∃ T, e = .returned (brV T).val /\ samV t T /\ TAt w' (brV T) /\ Below w.heap.size w w' := by
 have S0 : Hid (Below w.heap.size w ((w.alloc (tBox t)).alloc zTree) /\ ((w.alloc (tBox t)).alloc zTree).heap[w.heap.size]? = some (tBox t) /\ ((w.alloc (tBox t)).alloc zTree).heap[w.heap.size + 1]? = some zTree) := by
  have h1 := below_alloc w (tBox t)
  have h2 := below_alloc (w.alloc (tBox t)) zTree
  refine ⟨h1.trans (h2.mono h1.size), (h2.block _ (by simp)).trans (heap_alloc_new _ _), ?_⟩
  have := heap_alloc_new (w.alloc (tBox t)) zTree
  rwa [show (w.alloc (tBox t)).heap.size = w.heap.size + 1 by simp] at this
 have CC : Hid (∀ w', Below w.heap.size w w' -> Calls Try.prog 12 #[t.val] w' fun e w'' => ∃ T, e = .returned T.val /\ Below w'.heap.size w' w'' /\ samV t T /\ OwT w'.heap.size w'' T) := fun w' hb => copyTree_W t w' (ht.later hb) hsz
 have HSZ : Hid (szT t <= 100000000) := hsz
 clear ht hsz
 go_enter Try.func7, Try.ntmps7
 go_upto_region 1 with fail
 refine wp_world (fun w' => Below w.heap.size w w' /\ w'.heap[w.heap.size]? = some (tBox t) /\ w'.heap[w.heap.size + 1]? = some zTree) S0.out fun w1 h1 => ?_
 have H1 : Hid (Below w.heap.size w w1 /\ w1.heap[w.heap.size]? = some (tBox t) /\ w1.heap[w.heap.size + 1]? = some zTree) := h1
 clear h1 S0
 obtain ⟨c0, c1, c2, c3⟩ := tb_cells H1.out.2.1
 go_upto_region 3 with (go_at_call 12; refine (CC.out _ H1.out.1).mono ?_; rintro e w2 ⟨T, rfl, b2, sm, ow⟩; have H2 : Hid (Below w.heap.size w w2 /\ w2.heap[w.heap.size + 1]? = some zTree /\ samV t T /\ OwT w1.heap.size w2 T /\ w.heap.size + 1 < w1.heap.size) := ⟨H1.out.1.trans (b2.mono H1.out.1.size), (b2.block _ (lt_of_block H1.out.2.2)).trans H1.out.2.2, sm, ow, lt_of_block H1.out.2.2⟩; clear b2 sm ow c0 c1 c2 c3)
 clear H1 CC
 have W0 : Hid (BrI w T (w2.heap.size + 1) w2.heap.size T.tx (adX [⟨w2.heap.size + 1, 0, 1, [T]⟩]) [⟨w2.heap.size + 1, 0, 1, [T]⟩] (.slice (some ⟨w2.heap.size + 1 + 1, 0, none⟩) 1 1) (((w2.alloc (tBox T)).alloc (tBox T)).alloc (.cells #[.slice (some ⟨w2.heap.size + 1, 0, none⟩) 1 1] 29))) := by
  obtain ⟨B2, R2, -, O2, L2⟩ := H2.out
  have hz : ∀ (v : World) (o : Obj), (v.alloc o).heap.size = v.heap.size + 1 := fun v o => by simp
  have k : ∀ (j : Nat) (o o' : Obj) (v : World), v.heap[j]? = some o -> (v.alloc o').heap[j]? = some o := fun j o o' v h => ((below_alloc v o').block j (lt_of_block h)).trans h
  have bl : ∀ (v : World) (o : Obj), Below w2.heap.size w2 v -> Below w2.heap.size w2 (v.alloc o) := fun v o h => h.trans ((below_alloc v o).mono h.size)
  have ba := bl _ (.cells #[.slice (some ⟨w2.heap.size + 1, 0, none⟩) 1 1] 29) (bl _ (tBox T) (bl _ (tBox T) (Below.refl _ _)))
  have h1 := k _ _ (.cells #[.slice (some ⟨w2.heap.size + 1, 0, none⟩) 1 1] 29) _ (k _ _ (tBox T) _ (heap_alloc_new w2 (tBox T)))
  have h2 := heap_alloc_new (w2.alloc (tBox T)) (tBox T)
  rw [hz] at h2
  have h2 := k _ _ (.cells #[.slice (some ⟨w2.heap.size + 1, 0, none⟩) 1 1] 29) _ h2
  have h3 := heap_alloc_new ((w2.alloc (tBox T)).alloc (tBox T)) (.cells #[.slice (some ⟨w2.heap.size + 1, 0, none⟩) 1 1] 29)
  rw [hz, hz] at h3
  have hlt := lt_of_block R2
  have ta := O2.ta.later ba
  have tb := tb_tbxC h2
  refine ⟨B2.trans (ba.mono B2.size), (ba.block _ hlt).trans R2, h1, hlt, fun x hx => ⟨x.2.2.tx, ?_, fun hn => absurd ?_ hn⟩, fun x hx => ?_, ⟨rfl, .inr ⟨_, 1, _, rfl, Nat.zero_le _, h3, Nat.le_refl _, by unfold maxLen; omega, rfl, rfl⟩⟩, fun j hj => by simp [Value.ownBlock] at hj; omega, fun y hy => ?_⟩
  ·have key : ∀ (T : TV) (p q : Nat) (W : World), TBx W p q T -> TAt W T -> ∀ x ∈ enA (evT p q T), TBx W x.1 x.2.1 x.2.2 := by
    intro T
    induction T using TV.ind with
    | _ T ih =>
     intro p q W tb ta x hx
     rw [enA_evT_eq] at hx
     rcases List.mem_cons.1 hx with rfl | hx
     ·exact tb
     ·obtain ⟨z, hz, hxz⟩ := enA_evL_mem.1 hx
      have hk := kidF_mem hz
      obtain ⟨i, hi, rfl⟩ := List.getElem_of_mem hz
      have hi' : i < T.kids.length := by rw [<- kidF_len (kadr T).1 (kadr T).2 0 T.kids]; exact hi
      obtain ⟨b, off, e, hb⟩ := krow_kid ta.row hi'
      have h := kidsA_get e hi'
      rw [List.getElem?_eq_getElem hi] at h
      have h := Option.some.inj h
      rw [h] at hxz
      exact ih _ (List.getElem_mem hi') _ _ W hb (ta.kid _ (List.getElem_mem hi')) x hxz
   have := key T _ _ _ tb ta x hx
   exact ⟨this.lt, this.c0, this.c1, this.c2, this.c3⟩
  ·have e : adX [⟨w2.heap.size + 1, 0, 1, [T]⟩] = adsT (w2.heap.size + 1) 0 T := by simp [adX, kidF, adsL]
   rw [e]
   exact List.mem_map.2 ⟨x, hx, rfl⟩
  ·rw [enA_evT_eq] at hx
   rcases List.mem_cons.1 hx with rfl | hx
   ·exact ⟨by show _ < w2.heap.size + 1; omega, by show w2.heap.size + 1 ≠ _; omega, rfl, _, h2⟩
   ·have hm : (x.1, x.2.1) ∈ adsL (kidsA T) := by
     rw [<- enA_evL]
     exact List.mem_map.2 ⟨x, hx, rfl⟩
    obtain ⟨g1, g2, cs, g3⟩ := O2.ty _ hm
    have hl := lt_of_block g3
    exact ⟨by have : w1.heap.size <= x.1 := g1; omega, fun e => by have hl : x.1 < w2.heap.size := hl; omega, g2, cs, (ba.block _ hl).trans g3⟩
  ·simp only [List.mem_cons, List.not_mem_nil, or_false] at hy
   subst hy
   refine ⟨by simp, fun x hx => ?_⟩
   simp only [kidF, List.mem_cons, List.not_mem_nil, or_false] at hx
   subst hx
   exact enA_root _ _ _
 have HT : Hid (samV t T /\ TAt w2 T /\ szT T <= 100000000) := ⟨H2.out.2.2.1, H2.out.2.2.2.1.ta, by rw [<- samV_size _ _ H2.out.2.2.1]; exact HSZ.out⟩
 clear H2 HSZ
 obtain ⟨b1, hb1⟩ : ∃ b1, w2.heap.size + 1 = b1 := ⟨_, rfl⟩
 obtain ⟨ob, hob⟩ : ∃ ob, w2.heap.size = ob := ⟨_, rfl⟩
 obtain ⟨W3, hW3⟩ : ∃ W3, ((w2.alloc (tBox T)).alloc (tBox T)).alloc (.cells #[.slice (some ⟨w2.heap.size + 1, 0, none⟩) 1 1] 29) = W3 := ⟨_, rfl⟩
 change Code.wp _ _ _ _ (((w2.alloc (tBox T)).alloc (tBox T)).alloc (.cells #[.slice (some ⟨w2.heap.size + 1, 0, none⟩) 1 1] 29))
 rw [hW3] at W0 ⊢
 clear hW3
 rw [hb1] at W0 ⊢
 rw [hob] at W0 ⊢
 clear hb1 hob
 generalize b1 + 1 = b2 at *
 go_wp2
 go_loopg [4, 5] (szT T + 1) (fun gk v4 v5 wr => ∃ (R : List RX) (so : ByteArray) (fs : Bool), v5 = .bool fs /\ BrI w T b1 ob so (adX R) R v4 wr /\ (fs = true -> R ≠ []) /\ (fs = false -> so = ByteArray.empty) /\ toX R < gk /\ toX R <= 100000000)
 case atStart =>
  have e : toX [⟨b1, 0, 1, [T]⟩] = szT T := by simp [toX, szL]
  exact ⟨_, _, true, rfl, W0.out, (fun _ => by simp), (fun e => by cases e), by rw [e]; omega, by rw [e]; exact HT.out.2.2⟩
 case round =>
  clear W0
  obtain ⟨R, so, fs, rfl, hR, hf1, hf2, hg, hgl⟩ := hrel
  by_cases hD : R = []
  ·subst hD
   cases fs with
   | true => exact absurd rfl (hf1 rfl)
   | false =>
    obtain rfl := hf2 rfl
    obtain ⟨sa, sc, rfl, _⟩ := RO.len hR.rv
    have hbx : wr.heap[ob]? = some (tBox (brV T)) := hR.obx.trans (by rw [brV_box])
    obtain ⟨c0, c1, c2, c3⟩ := tb_cells hbx
    obtain ⟨d0, d1, d2, d3, f0, f1, f2, f3⟩ := z_cells hR.rb
    have hon := hR.on
    have B3 : Hid (TBx (set4 wr (w.heap.size + 1) 0 (brV T)) (w.heap.size + 1) 0 (brV T) /\ Below w.heap.size w (set4 wr (w.heap.size + 1) 0 (brV T)) /\ TAt (set4 wr (w.heap.size + 1) 0 (brV T)) (brV T) /\ samV t T) := by
     refine ⟨set4_tbx (brV T) d0 d1 d2 d3 (lt_of_block hR.rb), set4_below hR.bel 0 (brV T) (by omega), ?_, HT.out.1⟩
     have hS : BrI w T b1 ob ByteArray.empty [] [] (.slice sa ([] : List RX).length sc) wr := hR
     have hfin := hS.fin HT.out.2.1
     refine br_at T HT.out.2.1 fun x hx => ?_
     have hx' : x ∈ enA (evT b1 0 T) := by rw [enA_evT_eq]; exact List.mem_cons_of_mem _ hx
     obtain ⟨s, a, b⟩ := hS.cx x hx'
     obtain rfl := b (by simp)
     obtain ⟨n1, -⟩ := hS.ty x hx'
     have e : ∀ j, (set4 wr (w.heap.size + 1) 0 (brV T)).cell? ⟨x.1, j, none⟩ = wr.cell? ⟨x.1, j, none⟩ := fun j => World.cell?_of_block (set4_other _ _ _ _ _ (by show x.1 ≠ w.heap.size + 1; omega))
     exact ⟨by rw [set4_size]; exact a.lt, (e _).trans a.c0, (e _).trans a.c1, (e _).trans a.c2, (e _).trans a.c3⟩
    clear hR hg hgl hf1 hf2 hbx hon
    simp only [List.length_nil] at *
    go_wp2
    change bodyPost _ _ _ _ _ (set4 wr (w.heap.size + 1) 0 (brV T))
    generalize set4 wr (w.heap.size + 1) 0 (brV T) = w4 at *
    have x0 := B3.out.1.c0
    have x1 := B3.out.1.c1
    have x2 := B3.out.1.c2
    have x3 := B3.out.1.c3
    simp only [Nat.zero_add] at x1 x2 x3
    refine bodyPost_ret (v := (brV T).val) (by simp [results, Try.results7, go_sem, x0, x1, x2, x3]) rfl ?_
    exact ⟨T, rfl, B3.out.2.2.2, B3.out.2.2.1, B3.out.2.1⟩
  ·obtain ⟨R', y, rfl⟩ : ∃ d y, R = d ++ [y] := ⟨R.dropLast, R.getLast hD, (List.dropLast_concat_getLast hD).symm⟩
   obtain ⟨vb, vc, rfl, hvc, hcell, hP'⟩ := RO.pop (f := rxC) (k := 1) (fun _ => rfl) hR.rv
   have k0 := hcell 0 (by omega)
   simp only [rxC, List.getElem?_cons_zero, Nat.add_zero, Nat.mul_one] at k0
   have hml : y.l.length <= 100000000 /\ R'.length <= 100000000 /\ 0 < y.l.length := by
    have h1 := szL_len y.l
    have h2 := toX_len R' (fun z hz => (hR.rk z (by simp [hz])).1)
    have h3 := List.length_pos_iff.2 (hR.rk y (by simp)).1
    rw [toX_snoc] at hgl
    exact ⟨by omega, by omega, h3⟩
   obtain ⟨hm1, hm2, hm3⟩ := hml
   have RKY : Hid (∀ x ∈ kidF y.b y.o 0 y.l, x ∈ enA (evT b1 0 T)) := (hR.rk y (by simp)).2
   have HR : Hid (BrI w T b1 ob so (adsL (kidF y.b y.o 0 (y.l.drop 0)) ++ adX R') R' (.slice (some ⟨vb, 0, none⟩) R'.length vc) wr) := by
    refine BrI.mono (S := adX (R' ++ [y])) ⟨hR.bel, hR.rb, hR.obx, hR.on, hR.cx, hR.ty, hP', hR.vo, fun z hz => hR.rk z (by simp [hz])⟩ fun a ha => ?_
    rw [adX_snoc] at ha
    rw [List.drop_zero]
    simp only [List.mem_append] at ha ⊢
    exact ha.symm
   obtain ⟨K, hK⟩ : ∃ K, szL (y.l.drop 0) + toX R' + 0 = K := ⟨_, rfl⟩
   have HK : Hid (szL (y.l.drop 0) + toX R' + 0 = K /\ K < gk) := ⟨hK, by rw [<- hK, List.drop_zero]; rw [toX_snoc] at hg; omega⟩
   have HKK : Hid (K < gk /\ K <= 100000000) := ⟨HK.out.2, by rw [<- hK, List.drop_zero]; rw [toX_snoc] at hgl; omega⟩
   have HF2 : Hid (fs = false -> so = ByteArray.empty) := hf2
   clear hR hg hgl hP' hcell hD hK hf1 hf2
   go_wp2
   obtain ⟨gO, rfl⟩ : ∃ gO : Nat, gO = gk := ⟨_, rfl⟩
   obtain ⟨wO, rfl⟩ : ∃ wO : World, wO = wr := ⟨_, rfl⟩
   go_loopg [4, 5, 7] (y.l.length + 1) (fun g2 v4 v5 v7 w2 => ∃ (i : Nat) (R2 : List RX) (so2 : ByteArray) (f2 : Bool), i <= y.l.length /\ v7 = .int .i64 (i : Int) /\ v5 = .bool f2 /\ BrI w T b1 ob so2 (adsL (kidF y.b y.o i (y.l.drop i)) ++ adX R2) R2 v4 w2 /\ (f2 = true -> i = 0) /\ (f2 = false -> so2 = ByteArray.empty) /\ szL (y.l.drop i) + toX R2 + i = K /\ y.l.length - i < g2)
   case atStart => exact ⟨0, R', so, fs, Nat.zero_le _, rfl, rfl, HR.out, (fun _ => rfl), HF2.out, HK.out.1, by omega⟩
   case round =>
    clear HR k0 HK HF2
    obtain ⟨i, R2, so2, f2, hi, rfl, rfl, h2, hf1, hf2, ht2, hg2⟩ := hrel
    have HG2 : Hid (szL (y.l.drop i) + toX R2 + i = K /\ y.l.length - i < gk) := ⟨ht2, hg2⟩
    have HM : Hid (y.l.length - i < gk) := hg2
    clear ht2 hg2
    obtain ⟨va, v2c, rfl, _⟩ := RO.len h2.rv
    by_cases hlt : i < y.l.length
    ·have hxm := RKY.out _ (kidF_at (b := y.b) (o := y.o) hlt)
     have HX : Hid ((y.b, y.o + i * 4, y.l[i]) ∈ enA (evT b1 0 T)) := hxm
     have HTK : Hid (TAt w2 y.l[i] /\ szT y.l[i] <= 100000000) := by
      obtain ⟨a, b⟩ := prs_tat T b1 0 _ HT.out.2.1 hxm
      exact ⟨a, Nat.le_trans b HT.out.2.2⟩
     have ilt : (i : Int) < (y.l.length : Int) := by omega
     have il : (i : Int) <= 100000000 := by omega
     obtain ⟨s2, t2, -⟩ := h2.cx _ hxm
     obtain ⟨-, -, -, cs, hcs⟩ := h2.ty _ hxm
     have c2 := t2.c2
     have f2z : wr.frozen? ⟨y.b, y.o + i * 4 + 2, none⟩ = false := by
      have : wr.heap[y.b]? = some (.cells cs 31) := hcs
      simp [World.frozen?, this]
     have HST : Hid (BrI w T b1 ob so2 (adsL (kidsA y.l[i]) ++ (adsL (kidF y.b y.o (i + 1) (y.l.drop (i + 1))) ++ adX R2)) R2 (.slice va R2.length v2c) (wr.setCell ⟨y.b, y.o + i * 4 + 2, none⟩ (.string ByteArray.empty))) := h2.step hxm fun a ha => by
      rw [kidF_drop _ _ _ hlt, adsL_cons, adsT_eq, List.cons_append, List.cons_append] at ha
      rcases List.mem_cons.1 ha with q | q
      ·exact .inl q
      ·exact .inr (by simpa [List.append_assoc] using q)
     clear h2 hxm t2 hcs
     go_upto_region 11 with fail
     have W1 : Hid (BrI w T b1 ob so2 (adsL (kidsA y.l[i]) ++ (adsL (kidF y.b y.o (i + 1) (y.l.drop (i + 1))) ++ adX R2)) R2 (.slice va R2.length v2c) (wr.setCell ⟨y.b, y.o + i * 4 + 2, none⟩ (.string ⟨#[]⟩))) := HST.out
     clear HST c2 f2z
     refine wp_world (fun w' => BrI w T b1 ob so2 (adsL (kidsA y.l[i]) ++ (adsL (kidF y.b y.o (i + 1) (y.l.drop (i + 1))) ++ adX R2)) R2 (.slice va R2.length v2c) w') W1.out fun W2 hW2 => ?_
     have H2 : Hid (BrI w T b1 ob so2 (adsL (kidsA y.l[i]) ++ (adsL (kidF y.b y.o (i + 1) (y.l.drop (i + 1))) ++ adX R2)) R2 (.slice va R2.length v2c) W2) := hW2
     clear hW2 W1
     cases f2 with
     | true =>
      obtain ⟨-, -, o2, -⟩ := tb_cells H2.out.obx
      have fo : W2.frozen? ⟨ob, 2, none⟩ = false := by simp [World.frozen?, H2.out.obx]
      have HO : Hid (BrI w T b1 ob ByteArray.empty (adsL (kidsA y.l[i]) ++ (adsL (kidF y.b y.o (i + 1) (y.l.drop (i + 1))) ++ adX R2)) R2 (.slice va R2.length v2c) (W2.setCell ⟨ob, 2, none⟩ (.string ⟨#[]⟩))) := H2.out.out
      clear hf1 hf2
      go_upto_region 14 with fail
      clear o2 fo H2
      refine wp_world (fun w' => BrI w T b1 ob ByteArray.empty (adsL (kidsA y.l[i]) ++ (adsL (kidF y.b y.o (i + 1) (y.l.drop (i + 1))) ++ adX R2)) R2 (.slice va R2.length v2c) w') HO.out fun W2 hW2 => ?_
      have HS : Hid (BrI w T b1 ob ByteArray.empty (adsL (kidsA y.l[i]) ++ (adsL (kidF y.b y.o (i + 1) (y.l.drop (i + 1))) ++ adX R2)) R2 (.slice va R2.length v2c) W2 /\ True) := ⟨hW2, trivial⟩
      clear hW2 HO
      obtain ⟨sk, tk, -⟩ := HS.out.1.cx _ HX.out
      have c3 : W2.cell? ⟨y.b, y.o + i * 4 + 3, none⟩ = some (.slice y.l[i].ka y.l[i].kids.length y.l[i].kc) := tk.c3
      clear tk
      by_cases h0 : y.l[i].kids = []
      ·have e0 : y.l[i].kids.length = 0 := by rw [h0]; rfl
       have H4 : Hid (BrI w T b1 ob ByteArray.empty (adsL (kidF y.b y.o (i + 1) (y.l.drop (i + 1))) ++ adX R2) R2 (.slice va R2.length v2c) W2 /\ szL (y.l.drop (i + 1)) + toX R2 + (i + 1) = K) := by
        refine ⟨HS.out.1.mono fun a ha => ?_, ?_⟩
        ·have e : adsL (kidsA y.l[i]) = [] := by unfold kidsA; rw [h0]; rfl
         rw [e] at ha
         exact ha
        ·have h1 := HG2.out.1
         have h2 := szL_drop y.l hlt
         have h3 := szT_eq y.l[i]
         rw [h0] at h3
         have h4 : szL ([] : List TV) = 0 := rfl
         omega
       have c3' : W2.cell? ⟨y.b, y.o + i * 4 + 3, none⟩ = some (.slice y.l[i].ka 0 y.l[i].kc) := by rw [c3, e0]
       clear c3 h0 e0 HS HG2
       go_wp2
       go_roundg (gk - 1)
       case measure => have := HM.out; omega
       case rel => exact ⟨i + 1, R2, ByteArray.empty, false, by omega, by go_num, rfl, H4.out.1, (fun e => by cases e), (fun _ => rfl), H4.out.2, by have := HM.out; omega⟩
      ·have hpos : 0 < y.l[i].kids.length := List.length_pos_iff.2 h0
       have ipos : (0 : Int) < (y.l[i].kids.length : Int) := by omega
       obtain ⟨kb, ko, ek, -⟩ := krow_kid (HTK.out.1.row) hpos
       have hkk : kadr y.l[i] = (kb, ko) := by unfold kadr; rw [ek]
       have c3' : W2.cell? ⟨y.b, y.o + i * 4 + 3, none⟩ = some (.slice (some ⟨kb, ko, none⟩) y.l[i].kids.length y.l[i].kc) := by rw [c3, <- ek]
       have HRK : Hid (∀ z ∈ R2 ++ [⟨kb, ko, y.l[i].kc, y.l[i].kids⟩], z.l ≠ [] /\ ∀ x ∈ kidF z.b z.o 0 z.l, x ∈ enA (evT b1 0 T)) := fun z hz => by
        rcases List.mem_append.1 hz with h | h
        ·exact HS.out.1.rk z h
        ·simp only [List.mem_cons, List.not_mem_nil, or_false] at h
         subst h
         refine ⟨h0, fun x hx => prs_kid T b1 0 _ x HX.out ?_⟩
         show x ∈ kidsA y.l[i]
         unfold kidsA
         rw [hkk]
         exact hx
       have H4 : Hid (BrI w T b1 ob ByteArray.empty (adsL (kidF y.b y.o (i + 1) (y.l.drop (i + 1))) ++ adX (R2 ++ [⟨kb, ko, y.l[i].kc, y.l[i].kids⟩])) R2 (.slice va R2.length v2c) (W2.alloc (.cells #[.slice (some ⟨kb, ko, none⟩) y.l[i].kids.length y.l[i].kc] 29)) /\ szL (y.l.drop (i + 1)) + toX (R2 ++ [⟨kb, ko, y.l[i].kc, y.l[i].kids⟩]) + (i + 1) = K /\ R2.length <= 1000000000) := by
        refine ⟨(HS.out.1.mono fun a ha => ?_).later (below_alloc _ _), ?_, ?_⟩
        ·have e : adsL (kidsA y.l[i]) = adsL (kidF kb ko 0 y.l[i].kids) := by unfold kidsA; rw [hkk]
         rw [e] at ha
         rw [adX_snoc]
         simp only [List.mem_append] at ha ⊢
         rcases ha with q | q | q
         ·exact .inr (.inr q)
         ·exact .inl q
         ·exact .inr (.inl q)
        ·have h1 := HG2.out.1
         have h2 := szL_drop y.l hlt
         have h3 := szT_eq y.l[i]
         rw [toX_snoc]
         show _ + (_ + szL y.l[i].kids) + _ = _
         omega
        ·have h1 := HG2.out.1
         have h2 := toX_len R2 (fun z hz => (HS.out.1.rk z hz).1)
         have h3 := HKK.out.2
         omega
       have NX : Hid (∀ j u, (rxC ⟨kb, ko, y.l[i].kc, y.l[i].kids⟩)[j]? = some u -> (W2.alloc (.cells #[.slice (some ⟨kb, ko, none⟩) y.l[i].kids.length y.l[i].kc] 29)).cell? ⟨W2.heap.size, j, none⟩ = some u) := fun j u hu => by
        rw [cellq_any (heap_alloc_new W2 (.cells #[.slice (some ⟨kb, ko, none⟩) y.l[i].kids.length y.l[i].kc] 29)), <- hu]
        simp [rxC]
       clear c3 h0 ek hkk HS HG2
       go_wp2_with (at_builtin; refine wpList_ro_append rkRX rfl _ _ rfl (.slice va R2.length v2c) R2 rfl H4.out.1.rv W2.heap.size 1 ⟨kb, ko, y.l[i].kc, y.l[i].kids⟩ rfl NX.out H4.out.2.2 ?_; intro a7 n7 c7 w7 ho7 hg7; have W7 : Hid (BrI w T b1 ob ByteArray.empty (adsL (kidF y.b y.o (i + 1) (y.l.drop (i + 1))) ++ adX (R2 ++ [⟨kb, ko, y.l[i].kc, y.l[i].kids⟩])) (R2 ++ [⟨kb, ko, y.l[i].kc, y.l[i].kids⟩]) (.slice a7 n7 c7) w7) := H4.out.1.grew hg7 ho7 HRK.out; clear ho7 hg7)
       go_roundg (gk - 1)
       case measure => have := HM.out; omega
       case rel => exact ⟨i + 1, _, ByteArray.empty, false, by omega, by go_num, rfl, W7.out, (fun e => by cases e), (fun _ => rfl), H4.out.2.1, by have := HM.out; omega⟩
     | false =>
      obtain rfl := hf2 rfl
      have HS : Hid (BrI w T b1 ob ByteArray.empty (adsL (kidsA y.l[i]) ++ (adsL (kidF y.b y.o (i + 1) (y.l.drop (i + 1))) ++ adX R2)) R2 (.slice va R2.length v2c) W2 /\ True) := ⟨H2.out, trivial⟩
      clear hf1 hf2 H2
      go_upto_region 14 with fail
      obtain ⟨sk, tk, -⟩ := HS.out.1.cx _ HX.out
      have c3 : W2.cell? ⟨y.b, y.o + i * 4 + 3, none⟩ = some (.slice y.l[i].ka y.l[i].kids.length y.l[i].kc) := tk.c3
      clear tk
      by_cases h0 : y.l[i].kids = []
      ·have e0 : y.l[i].kids.length = 0 := by rw [h0]; rfl
       have H4 : Hid (BrI w T b1 ob ByteArray.empty (adsL (kidF y.b y.o (i + 1) (y.l.drop (i + 1))) ++ adX R2) R2 (.slice va R2.length v2c) W2 /\ szL (y.l.drop (i + 1)) + toX R2 + (i + 1) = K) := by
        refine ⟨HS.out.1.mono fun a ha => ?_, ?_⟩
        ·have e : adsL (kidsA y.l[i]) = [] := by unfold kidsA; rw [h0]; rfl
         rw [e] at ha
         exact ha
        ·have h1 := HG2.out.1
         have h2 := szL_drop y.l hlt
         have h3 := szT_eq y.l[i]
         rw [h0] at h3
         have h4 : szL ([] : List TV) = 0 := rfl
         omega
       have c3' : W2.cell? ⟨y.b, y.o + i * 4 + 3, none⟩ = some (.slice y.l[i].ka 0 y.l[i].kc) := by rw [c3, e0]
       clear c3 h0 e0 HS HG2
       go_wp2
       go_roundg (gk - 1)
       case measure => have := HM.out; omega
       case rel => exact ⟨i + 1, R2, ByteArray.empty, false, by omega, by go_num, rfl, H4.out.1, (fun e => by cases e), (fun _ => rfl), H4.out.2, by have := HM.out; omega⟩
      ·have hpos : 0 < y.l[i].kids.length := List.length_pos_iff.2 h0
       have ipos : (0 : Int) < (y.l[i].kids.length : Int) := by omega
       obtain ⟨kb, ko, ek, -⟩ := krow_kid (HTK.out.1.row) hpos
       have hkk : kadr y.l[i] = (kb, ko) := by unfold kadr; rw [ek]
       have c3' : W2.cell? ⟨y.b, y.o + i * 4 + 3, none⟩ = some (.slice (some ⟨kb, ko, none⟩) y.l[i].kids.length y.l[i].kc) := by rw [c3, <- ek]
       have HRK : Hid (∀ z ∈ R2 ++ [⟨kb, ko, y.l[i].kc, y.l[i].kids⟩], z.l ≠ [] /\ ∀ x ∈ kidF z.b z.o 0 z.l, x ∈ enA (evT b1 0 T)) := fun z hz => by
        rcases List.mem_append.1 hz with h | h
        ·exact HS.out.1.rk z h
        ·simp only [List.mem_cons, List.not_mem_nil, or_false] at h
         subst h
         refine ⟨h0, fun x hx => prs_kid T b1 0 _ x HX.out ?_⟩
         show x ∈ kidsA y.l[i]
         unfold kidsA
         rw [hkk]
         exact hx
       have H4 : Hid (BrI w T b1 ob ByteArray.empty (adsL (kidF y.b y.o (i + 1) (y.l.drop (i + 1))) ++ adX (R2 ++ [⟨kb, ko, y.l[i].kc, y.l[i].kids⟩])) R2 (.slice va R2.length v2c) (W2.alloc (.cells #[.slice (some ⟨kb, ko, none⟩) y.l[i].kids.length y.l[i].kc] 29)) /\ szL (y.l.drop (i + 1)) + toX (R2 ++ [⟨kb, ko, y.l[i].kc, y.l[i].kids⟩]) + (i + 1) = K /\ R2.length <= 1000000000) := by
        refine ⟨(HS.out.1.mono fun a ha => ?_).later (below_alloc _ _), ?_, ?_⟩
        ·have e : adsL (kidsA y.l[i]) = adsL (kidF kb ko 0 y.l[i].kids) := by unfold kidsA; rw [hkk]
         rw [e] at ha
         rw [adX_snoc]
         simp only [List.mem_append] at ha ⊢
         rcases ha with q | q | q
         ·exact .inr (.inr q)
         ·exact .inl q
         ·exact .inr (.inl q)
        ·have h1 := HG2.out.1
         have h2 := szL_drop y.l hlt
         have h3 := szT_eq y.l[i]
         rw [toX_snoc]
         show _ + (_ + szL y.l[i].kids) + _ = _
         omega
        ·have h1 := HG2.out.1
         have h2 := toX_len R2 (fun z hz => (HS.out.1.rk z hz).1)
         have h3 := HKK.out.2
         omega
       have NX : Hid (∀ j u, (rxC ⟨kb, ko, y.l[i].kc, y.l[i].kids⟩)[j]? = some u -> (W2.alloc (.cells #[.slice (some ⟨kb, ko, none⟩) y.l[i].kids.length y.l[i].kc] 29)).cell? ⟨W2.heap.size, j, none⟩ = some u) := fun j u hu => by
        rw [cellq_any (heap_alloc_new W2 (.cells #[.slice (some ⟨kb, ko, none⟩) y.l[i].kids.length y.l[i].kc] 29)), <- hu]
        simp [rxC]
       clear c3 h0 ek hkk HS HG2
       go_wp2_with (at_builtin; refine wpList_ro_append rkRX rfl _ _ rfl (.slice va R2.length v2c) R2 rfl H4.out.1.rv W2.heap.size 1 ⟨kb, ko, y.l[i].kc, y.l[i].kids⟩ rfl NX.out H4.out.2.2 ?_; intro a7 n7 c7 w7 ho7 hg7; have W7 : Hid (BrI w T b1 ob ByteArray.empty (adsL (kidF y.b y.o (i + 1) (y.l.drop (i + 1))) ++ adX (R2 ++ [⟨kb, ko, y.l[i].kc, y.l[i].kids⟩])) (R2 ++ [⟨kb, ko, y.l[i].kc, y.l[i].kids⟩]) (.slice a7 n7 c7) w7) := H4.out.1.grew hg7 ho7 HRK.out; clear ho7 hg7)
       go_roundg (gk - 1)
       case measure => have := HM.out; omega
       case rel => exact ⟨i + 1, _, ByteArray.empty, false, by omega, by go_num, rfl, W7.out, (fun e => by cases e), (fun _ => rfl), H4.out.2.1, by have := HM.out; omega⟩
    ·obtain rfl : i = y.l.length := by omega
     have hne : y.l.length ≠ 0 := by omega
     cases f2 with
     | true => exact absurd (hf1 rfl) hne
     | false =>
      obtain rfl := hf2 rfl
      have HE : Hid (BrI w T b1 ob ByteArray.empty (adX R2) R2 (.slice va R2.length v2c) wr) := h2.mono fun a ha => by
       rw [List.drop_length] at ha
       exact ha
      have ilt : ¬ (y.l.length : Int) < (y.l.length : Int) := by omega
      clear h2 hlt hi hf1 hf2 hne
      go_wp2
      go_roundg (gO - 1)
      case measure => have := HKK.out.1; omega
      case rel =>
       refine ⟨R2, ByteArray.empty, false, rfl, HE.out, (fun e => by cases e), (fun _ => rfl), ?_, ?_⟩
       ·have h1 := HG2.out.1
        have h3 := HKK.out.1
        rw [List.drop_length] at h1
        have h4 : szL ([] : List TV) = 0 := rfl
        omega
       ·have h1 := HG2.out.1
        have h3 := HKK.out.2
        omega
end Go.Proofs.Ytndbdliaidbocaa
