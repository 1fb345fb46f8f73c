import Derived.Test.YtndbdliaidbocaaPPR0ToPR3
import Derived.Test.YtndbdliaidbocaaPTCn
import Derived.Test.YtndbdliaidbocaaPTDgToTDe
namespace Go.Proofs.Ytndbdliaidbocaa
set_option linter.unusedVariables false
open Go.RowKit Go.Shelf
set_option linter.unusedSimpArgs false in
set_option maxRecDepth 100000 in
set_option maxHeartbeats 4000000 in
theorem print2_W (w0 : World) (g : GV) (p0 q0 p q : Nat) (t : TV) (l : List UInt8) (w : World) (h : PTs w0 g p0 q0 l w) (ht : TBx w0 p q t) (R : List UInt8) (hR : R = l ++ enP t) (hl : l.length <= 10000000000) :
  Calls Try.prog 19 #[.pointer (some ⟨p, q, none⟩), .pointer (some ⟨w0.heap.size + 2, 0, none⟩)] w fun e w' => e = .returned (.tuple #[]) /\ OnStp w0.heap.size w w' /\ PTs w0 g p0 q0 R w' := by
 have CI : Hid (Calls Try.prog 18 #[.pointer (some ⟨p, q, none⟩)] w fun e w'' => e = .returned (.bool (t.prod == -1)) /\ w'' = w) := isLeaf_W p q t w (ht.later h.bel)
 have WS : Hid (Calls Try.prog 17 #[.pointer (some ⟨w0.heap.size + 2, 0, none⟩), .string ⟨#[41]⟩] w fun e w'' => (∃ v, e = .returned v) /\ PTs w0 g p0 q0 (l ++ [41]) w'' /\ OnStp w0.heap.size w w'') := (wstr_K ⟨#[41]⟩ h.tx (by omega) (by decide) h.bel.size).mono fun e w'' ⟨e1, e2, e3, e4⟩ => ⟨⟨_, e1⟩, (h.write e2 e3 e4).1, (h.write e2 e3 e4).2⟩
 have H0 : Hid (PTs w0 g p0 q0 l w) := h
 clear h ht hl
 by_cases hp : t.prod = -1
 ·have t1 : (t.prod == -1) = true := by simpa using hp
  rw [t1] at CI
  have HE : Hid (R = l) := by show _ = _; rw [hR]; unfold enP; rw [if_pos hp, List.append_nil]
  clear hp t1 hR
  go_enter Try.func19, Try.ntmps19
  go_wp2_with (go_at_call 18; refine CI.out.mono ?_; rintro e w1 ⟨rfl, hz⟩; rw [hz]; clear hz w1)
  refine bodyPost_end (results_none rfl _ _ _) rfl ?_
  exact ⟨rfl, OnStp.refl _ _, by rw [HE.out]; exact H0.out⟩
 ·have t1 : (t.prod == -1) = false := by simpa using hp
  rw [t1] at CI
  have HE : Hid (R = l ++ [41]) := by show _ = _; rw [hR]; unfold enP; rw [if_neg hp]
  clear hp t1 hR
  go_enter Try.func19, Try.ntmps19
  go_wp2_with (first
   | (go_at_call 18; refine CI.out.mono ?_; rintro e w1 ⟨rfl, hz⟩; rw [hz]; clear hz w1)
   | (go_at_call 17; refine WS.out.mono ?_; rintro e w3 ⟨⟨v3, rfl⟩, k1, k2⟩; have P3 : Hid (PTs w0 g p0 q0 (l ++ [41]) w3 /\ OnStp w0.heap.size w w3) := ⟨k1, k2⟩; clear k1 k2))
  refine bodyPost_end (results_none rfl _ _ _) rfl ?_
  exact ⟨rfl, P3.out.2, by rw [HE.out]; exact P3.out.1⟩
theorem evT_head {p q : Nat} {t : TV} {D R : List EV} {x : EV} (h : D ++ x :: R = evT p q t) (hx : x.en = true) (hne : ∀ a ∈ adsL (kidsA t), a.1 ≠ p) : (D = [] -> x = ⟨true, p, q, t⟩) /\ (D ≠ [] -> x.p ≠ p) := by
 rw [evT_eq] at h
 refine ⟨fun e => ?_, fun e => ?_⟩
 ·subst e
  simp only [List.nil_append, List.cons_append, List.cons.injEq] at h
  exact h.1
 ·cases D with
  | nil => exact absurd rfl e
  | cons d D =>
   simp only [List.cons_append, List.cons.injEq] at h
   have hm : x ∈ evL (kidsA t) ++ [(⟨false, p, q, t⟩ : EV)] := by rw [<- h.2]; simp
   rcases List.mem_append.1 hm with hm | hm
   ·have : (x.p, x.q) ∈ adsL (kidsA t) := by
     rw [<- enA_evL]
     refine List.mem_map.2 ⟨(x.p, x.q, x.t), ?_, rfl⟩
     unfold enA
     exact List.mem_map.2 ⟨x, List.mem_filter.2 ⟨hm, hx⟩, rfl⟩
    exact hne _ this
   ·simp at hm
    rw [hm] at hx
    cases hx
theorem exL_ne {g : GV} {p q : Nat} {t : TV} {D R : List EV} {x : EV} (h : D ++ x :: R = evT p q t) (hD : D ≠ []) : ∃ l, exL g D = 32 :: l := by
 rw [evT_eq] at h
 cases D with
 | nil => exact absurd rfl hD
 | cons d D =>
  simp only [List.cons_append, List.cons.injEq] at h
  obtain ⟨h1, -⟩ := h
  subst h1
  exact ⟨hdP g t ++ exL g D, by simp [exL, evX]⟩
def PlAll (g : GV) (t : TV) : Prop := AllP (PlOk g) t
theorem ev_mem {P : TV -> Prop} (t : TV) : ∀ (p q : Nat), AllP P t -> ∀ x ∈ evT p q t, P x.t := by
 induction t using TV.ind with
 | _ t ih =>
  intro p q h x hx
  rw [evT_eq] at hx
  simp only [List.cons_append, List.mem_cons, List.mem_append, List.not_mem_nil, or_false] at hx
  rcases hx with rfl | hx | rfl
  ·exact h.here
  ·obtain ⟨y, hy, hx⟩ := List.mem_flatMap.1 hx
   exact ih _ (kidF_mem hy) _ _ (h.kid _ (kidF_mem hy)) x hx
  ·exact h.here
set_option linter.unusedSimpArgs false in
set_option maxRecDepth 100000 in
set_option maxHeartbeats 4000000 in
theorem printed_W (g : GV) (p0 : Nat) (t : TV) (w : World) (hg : GAt 140737488355328 w g) (hr : w.heap[p0]? = some (tBox t)) (ht : TAt w t) (hne : ∀ a ∈ adsL (kidsA t), a.1 ≠ p0) (hsz : szT t <= 100000000) (hpl : PlAll g t) (hn1 : ∀ s ∈ g.ts, s.size <= 32) (hn2 : ∀ s ∈ g.ns, s.size <= 32) :
  Calls Try.prog 11 #[g.val, .pointer (some ⟨p0, 0, none⟩)] w fun e w' => e = .returned (.string ⟨(txT g t).toArray⟩) /\ Below w.heap.size w w' := by
 have htb : TBx w p0 0 t := by
  obtain ⟨a, b, c, d⟩ := tb_cells hr
  exact ⟨lt_of_block hr, a, b, c, d⟩
 have CW : Hid (∀ w1, PTs w g p0 0 [] w1 -> Calls Try.prog 15 #[.pointer (some ⟨p0, 0, none⟩), fnV 16 #[.pointer (some ⟨w.heap.size + 1, 0, none⟩), .pointer (some ⟨w.heap.size + 2, 0, none⟩), .pointer (some ⟨w.heap.size, 0, none⟩)], fnV 19 #[.pointer (some ⟨w.heap.size + 2, 0, none⟩)]] w1 fun e w' => e = .returned (.tuple #[]) /\ PTs w g p0 0 (txT g t) w') := fun w1 h1 => by
  refine (walkAround_R (St := fun D w' => PTs w g p0 0 ((exL g D).drop 1) w') (Fin := fun _ => False) ⟨ent_print1, ent_print2, htb, ht, hsz, fun D w w' h hn => h.still hn, fun D w h => h.bel, fun D p q t' R hD hT w2 h2 => ?_, fun D p q t' R hD hT w2 h2 => ?_⟩ w1 h1).mono ?_
  ·have hD' := ev_bound hD hsz
   have hl := exL_len hn1 hn2 D
   obtain ⟨f1, f2⟩ := evT_head hD rfl hne
   have ok := ev_mem t p0 0 hpl ⟨true, p, q, t'⟩ (by rw [<- hD]; simp)
   refine (print1_W w g p0 0 p q t' _ w2 h2 hg hT ok D.isEmpty ⟨fun e => ?_, fun e => ?_⟩ ⟨t, hr⟩ ((exL g (D ++ [⟨true, p, q, t'⟩])).drop 1) ?_ ?_ hn1 hn2).mono fun e w' ⟨e1, e2, e3⟩ => ⟨true, e1, e2, fun _ => e3, fun q => by cases q⟩
   ·have := f1 (List.isEmpty_iff.1 e)
    cases this
    exact ⟨rfl, rfl⟩
   ·exact f2 (fun z => by rw [z] at e; cases e)
   ·rw [exL_app, exL_in]
    cases hd : D with
    | nil => simp [exL]
    | cons d D2 =>
     rw [<- hd]
     obtain ⟨l, hl⟩ := exL_ne (g := g) hD (by rw [hd]; simp)
     rw [hl, hd]
     simp
   ·rw [List.length_drop]
    omega
  ·have hD' := ev_bound hD hsz
   have hl := exL_len hn1 hn2 D
   refine (print2_W w g p0 0 p q t' _ w2 h2 hT ((exL g (D ++ [⟨false, p, q, t'⟩])).drop 1) ?_ ?_).mono fun e w' ⟨e1, e2, e3⟩ => ⟨e1, e2, e3⟩
   ·rw [exL_app, exL_out]
    cases hd : D with
    | nil =>
     rw [hd, evT_eq] at hD
     simp at hD
    | cons d D2 =>
     rw [<- hd]
     obtain ⟨l, hl⟩ := exL_ne (g := g) hD (by rw [hd]; simp)
     rw [hl]
     simp
   ·rw [List.length_drop]
    omega
  ·rintro e w' ⟨e1, e2 | e2⟩
   ·have e2 : PTs w g p0 0 ((exL g (evT p0 0 t)).drop 1) w' := e2
    rw [evT_text] at e2
    exact ⟨e1, e2⟩
   ·exact e2.elim
 have S0 : Hid (PTs w g p0 0 [] (((w.alloc (gBox g)).alloc (ptBox (some ⟨p0, 0, none⟩))).alloc (.cells #[.pointer none, .slice none 0 0] 58))) := by
  have k : ∀ (j : Nat) (o o' : Obj) (v : World), v.heap[j]? = some o -> (v.alloc o').heap[j]? = some o := fun j o o' v h => ((below_alloc v o').block j (lt_of_block h)).trans h
  have e : ∀ (v : World) (o : Obj), (v.alloc o).heap.size = v.heap.size + 1 := fun v o => by simp
  have bl : ∀ (v : World) (o : Obj), Below w.heap.size w v -> Below w.heap.size w (v.alloc o) := fun v o h => h.trans ((below_alloc v o).mono h.size)
  refine ⟨bl _ _ (bl _ _ (bl _ _ (Below.refl _ _))), k _ _ _ _ (k _ _ _ _ (heap_alloc_new _ _)), ?_, .inl ⟨by omega, .slice none 0 0, ?_, World.ownsRow_nil _ _ _ _, by simp [Value.ownBlock]⟩⟩
  ·have := heap_alloc_new (w.alloc (gBox g)) (ptBox (some ⟨p0, 0, none⟩))
   rw [e] at this
   exact k _ _ _ _ this
  ·have := heap_alloc_new ((w.alloc (gBox g)).alloc (ptBox (some ⟨p0, 0, none⟩))) (.cells #[.pointer none, .slice none 0 0] 58)
   rw [e, e] at this
   exact this
 have CS : Hid (∀ w1, PTs w g p0 0 (txT g t) w1 -> Calls Try.prog 20 #[.pointer (some ⟨w.heap.size + 2, 0, none⟩)] w1 fun e w' => e = .returned (.string ⟨(txT g t).toArray⟩) /\ Below w.heap.size w w') := fun w1 h1 => (bstr_P h1.tx h1.bel.size).mono fun e w' ⟨e1, e2⟩ => ⟨e1, h1.bel.trans e2⟩
 clear htb hg hr ht hne hsz hpl hn1 hn2
 generalize txT g t = tx at *
 go_enter Try.func11, Try.ntmps11
 go_upto_region 2 with fail
 refine wp_world (fun w' => PTs w g p0 0 [] w') S0.out fun w1 h1 => ?_
 have H1 : Hid (PTs w g p0 0 [] w1) := h1
 have pb := ptP h1.pb
 clear h1 S0
 go_wp2_with (first
  | (go_at_call 15; refine (CW.out _ H1.out).mono ?_; rintro e w2 ⟨rfl, k2⟩; have H2 : Hid (PTs w g p0 0 tx w2) := k2; clear k2 pb)
  | (go_at_call 20; refine (CS.out _ H2.out).mono ?_; rintro e w3 ⟨rfl, b3⟩; have R : Hid (Below w.heap.size w w3) := b3; clear b3))
 go_ret
 exact ⟨rfl, R.out⟩
theorem plAll_of {g : GV} (hc : OkC g) {t : TV} (h : RT g t) : PlAll g t := fun d y hy => by
 rcases h d y hy with ⟨h1, h2, h3, -⟩ | ⟨h1, h2, -⟩
 ·exact .inl ⟨h1, h2, h3⟩
 ·have := hc.left y.t.prod.toNat (by omega)
  exact .inr ⟨h1, h2, this⟩
theorem rt_of {g : GV} {t : TV} (h : (runU g (ckT g (0, 0) false t) 0).1 = 0) : RT g t := RT.of t (0, 0) false (runU_zero _ 0 h)
def prEr (g : GV) (er : Int) (t : TV) : Int := if er = 0 then (runU g (ckT g (0, 0) false t) 0).1 else er
def prTx (g : GV) (er : Int) (t : TV) : ByteArray := if prEr g er t = 0 then ⟨(txT g t).toArray⟩ else ⟨#[]⟩
set_option linter.unusedSimpArgs false in
set_option maxRecDepth 100000 in
set_option maxHeartbeats 4000000 in
theorem Print_W (g : GV) (t : TV) (w : World) (h : GAt 140737488355328 w g) (hpc : g.ps.length <= g.pc) (er at_ : Int) (hE : checkG g (checkF g.ts g.ns) = (er, at_)) (ht : TAt w t) (hsz : szT t <= 100000000) :
  Calls Try.prog 5 #[g.val, t.val] w fun e w' => e = .returned (.tuple #[.string (prTx g er t), .int .i64 (prEr g er t)]) /\ Below w.heap.size w w' := by
 have BA : Hid (Below w.heap.size w ((w.alloc (gBox g)).alloc (tBox t)) /\ ((w.alloc (gBox g)).alloc (tBox t)).heap[w.heap.size]? = some (gBox g) /\ ((w.alloc (gBox g)).alloc (tBox t)).heap[w.heap.size + 1]? = some (tBox t)) := by
  have h1 := below_alloc w (gBox g)
  have h2 := below_alloc (w.alloc (gBox g)) (tBox t)
  refine ⟨h1.trans (h2.mono h1.size), (h2.block _ (by simp)).trans (heap_alloc_new _ _), ?_⟩
  have := heap_alloc_new (w.alloc (gBox g)) (tBox t)
  rwa [show (w.alloc (gBox g)).heap.size = w.heap.size + 1 by simp] at this
 obtain ⟨n2, hn2⟩ : ∃ n2 : Int, (if er = 0 then ((runU g (ckT g (0, 0) false t) 0).2 : Int) else 0) = n2 := ⟨_, rfl⟩
 have CC : Hid (∀ w', Below w.heap.size w w' -> Calls Try.prog 9 #[g.val, t.val] w' fun e w'' => e = .returned (.tuple #[.int .i64 (prEr g er t), .int .i64 n2]) /\ Below w'.heap.size w' w'') := fun w' hb => by
  have := Check_W g t w' (h.later hb) hpc er at_ hE (ht.later hb) hsz
  rw [hn2] at this
  exact this
 have CP : Hid (prEr g er t = 0 -> ∀ w', Below w.heap.size w w' -> w'.heap[w.heap.size + 1]? = some (tBox t) -> Calls Try.prog 11 #[g.val, .pointer (some ⟨w.heap.size + 1, 0, none⟩)] w' fun e w'' => e = .returned (.string (prTx g er t)) /\ Below w'.heap.size w' w'') := fun he w' hb hbx => by
  have he0 : er = 0 := by
   unfold prEr at he
   by_cases z : er = 0
   ·exact z
   ·rw [if_neg z] at he; exact absurd he z
  have hr0 : (runU g (ckT g (0, 0) false t) 0).1 = 0 := by unfold prEr at he; rwa [if_pos he0] at he
  have hc : OkC g := OkC.of (by rw [hE]; exact he0)
  have := printed_W g (w.heap.size + 1) t w' (h.later hb) hbx (ht.later hb) (fun a ha => by have := kids_lt ht ha; omega) hsz (plAll_of hc (rt_of hr0)) hc.ts hc.ns
  unfold prTx
  rw [if_pos he]
  exact this
 have hS : Hid (prEr g er t ≠ 0 -> prTx g er t = ⟨#[]⟩) := fun he => by unfold prTx; rw [if_neg he]
 clear h hpc hE ht hsz hn2
 generalize prTx g er t = S at *
 generalize prEr g er t = E at *
 go_enter Try.func5, Try.ntmps5
 go_upto_region 1 with fail
 refine wp_world (fun w' => Below w.heap.size w w' /\ w'.heap[w.heap.size]? = some (gBox g) /\ w'.heap[w.heap.size + 1]? = some (tBox t)) BA.out fun w1 h1 => ?_
 have H1 : Hid (Below w.heap.size w w1 /\ w1.heap[w.heap.size]? = some (gBox g) /\ w1.heap[w.heap.size + 1]? = some (tBox t)) := h1
 clear h1 BA
 obtain ⟨g0, g1, g2, g3, g4⟩ := gbx_cells H1.out.2.1
 obtain ⟨c0, c1, c2, c3⟩ := tb_cells H1.out.2.2
 go_upto_region 2 with (go_at_call 9; refine (CC.out _ H1.out.1).mono ?_; rintro e w2 ⟨rfl, b2⟩; have H2 : Hid (Below w.heap.size w w2 /\ w2.heap[w.heap.size]? = some (gBox g) /\ w2.heap[w.heap.size + 1]? = some (tBox t)) := ⟨H1.out.1.trans (b2.mono H1.out.1.size), (b2.block _ (lt_of_block H1.out.2.1)).trans H1.out.2.1, (b2.block _ (lt_of_block H1.out.2.2)).trans H1.out.2.2⟩; clear b2 g0 g1 g2 g3 g4 c0 c1 c2 c3)
 clear H1 CC
 by_cases he : E = 0
 ·subst he
  have CQ : Hid (Calls Try.prog 11 #[g.val, .pointer (some ⟨w.heap.size + 1, 0, none⟩)] w2 fun e w'' => e = .returned (.string S) /\ Below w2.heap.size w2 w'') := CP.out rfl w2 H2.out.1 H2.out.2.2
  clear CP hS
  obtain ⟨g0, g1, g2, g3, g4⟩ := gbx_cells H2.out.2.1
  go_wp2_with (go_at_call 11; refine CQ.out.mono ?_; rintro e w3 ⟨rfl, b3⟩; have R : Hid (Below w.heap.size w w3) := H2.out.1.trans (b3.mono H2.out.1.size); clear b3)
  go_ret2
  exact ⟨rfl, R.out⟩
 ·have t1 : (E != 0) = true := by simpa using he
  have hS0 := hS.out he
  subst hS0
  clear CP hS
  go_wp2
  go_ret2
  exact ⟨rfl, H2.out.1⟩
end Go.Proofs.Ytndbdliaidbocaa
