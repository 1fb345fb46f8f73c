import Derived.Test.YtndbdliaidbocaaGreatPPR0ToPR3
import Derived.Test.YtndbdliaidbocaaGreatPTCn
import Derived.Test.YtndbdliaidbocaaGreatPTDgToTDe
import Derived.Test.YtndbdliaidbocaaGreatPTT5
import Derived.Test.YtndbdliaidbocaaGreatPRRowToRegS
namespace Go.Proofs.YtndbdliaidbocaaGreat
set_option linter.unusedVariables false
open Go.RowKit Go.Shelf
set_option linter.unusedSimpArgs false in
set_option maxRecDepth 100000 in
set_option maxHeartbeats 4000000 in
theorem print2_W (w0 : World) (g : GV) (p0 q0 p q : Nat) (t : TV) (l : List UInt8) (w : World) (h : PTs w0 g p0 q0 l w) (ht : TBx w0 p q t) (R : List UInt8) (hR : R = l ++ enP t) (hl : l.length <= 10000000000) :
  Calls Tryz.prog 47 #[.pointer (some ⟨p, q, none⟩), .pointer (some ⟨w0.heap.size + 2, 0, none⟩)] w fun e w' => e = .returned (.tuple #[]) /\ OnStp w0.heap.size w w' /\ PTs w0 g p0 q0 R w' := by
 have CI : Hid (Calls Tryz.prog 46 #[.pointer (some ⟨p, q, none⟩)] w fun e w'' => e = .returned (.bool (t.prod == -1)) /\ w'' = w) := isLeaf_W p q t w (ht.later h.bel)
 have WS : Hid (Calls Tryz.prog 45 #[.pointer (some ⟨w0.heap.size + 2, 0, none⟩), .string ⟨#[41]⟩] w fun e w'' => (∃ v, e = .returned v) /\ PTs w0 g p0 q0 (l ++ [41]) w'' /\ OnStp w0.heap.size w w'') := (wstr_K ⟨#[41]⟩ h.tx (by omega) (by decide) h.bel.size).mono fun e w'' ⟨e1, e2, e3, e4⟩ => ⟨⟨_, e1⟩, (h.write e2 e3 e4).1, (h.write e2 e3 e4).2⟩
 have H0 : Hid (PTs w0 g p0 q0 l w) := h
 clear h ht hl
 by_cases hp : t.prod = -1
 ·have t1 : (t.prod == -1) = true := by simpa using hp
  rw [t1] at CI
  have HE : Hid (R = l) := by show _ = _; rw [hR]; unfold enP; rw [if_pos hp, List.append_nil]
  clear hp t1 hR
  go_enter Tryz.func47, Tryz.ntmps47
  go_wp2_with (go_at_call 46; refine CI.out.mono ?_; rintro e w1 ⟨rfl, hz⟩; rw [hz]; clear hz w1)
  refine bodyPost_end (results_none rfl _ _ _) rfl ?_
  exact ⟨rfl, OnStp.refl _ _, by rw [HE.out]; exact H0.out⟩
 ·have t1 : (t.prod == -1) = false := by simpa using hp
  rw [t1] at CI
  have HE : Hid (R = l ++ [41]) := by show _ = _; rw [hR]; unfold enP; rw [if_neg hp]
  clear hp t1 hR
  go_enter Tryz.func47, Tryz.ntmps47
  go_wp2_with (first
   | (go_at_call 46; refine CI.out.mono ?_; rintro e w1 ⟨rfl, hz⟩; rw [hz]; clear hz w1)
   | (go_at_call 45; refine WS.out.mono ?_; rintro e w3 ⟨⟨v3, rfl⟩, k1, k2⟩; have P3 : Hid (PTs w0 g p0 q0 (l ++ [41]) w3 /\ OnStp w0.heap.size w w3) := ⟨k1, k2⟩; clear k1 k2))
  refine bodyPost_end (results_none rfl _ _ _) rfl ?_
  exact ⟨rfl, P3.out.2, by rw [HE.out]; exact P3.out.1⟩
theorem evT_head {p q : Nat} {t : TV} {D R : List EV} {x : EV} (h : D ++ x :: R = evT p q t) (hx : x.en = true) (hne : ∀ a ∈ adsL (kidsA t), a.1 ≠ p) : (D = [] -> x = ⟨true, p, q, t⟩) /\ (D ≠ [] -> x.p ≠ p) := by
 rw [evT_eq] at h
 refine ⟨fun e => ?_, fun e => ?_⟩
 ·subst e
  simp only [List.nil_append, List.cons_append, List.cons.injEq] at h
  exact h.1
 ·cases D with
  | nil => exact absurd rfl e
  | cons d D =>
   simp only [List.cons_append, List.cons.injEq] at h
   have hm : x ∈ evL (kidsA t) ++ [(⟨false, p, q, t⟩ : EV)] := by rw [<- h.2]; simp
   rcases List.mem_append.1 hm with hm | hm
   ·have : (x.p, x.q) ∈ adsL (kidsA t) := by
     rw [<- enA_evL]
     refine List.mem_map.2 ⟨(x.p, x.q, x.t), ?_, rfl⟩
     unfold enA
     exact List.mem_map.2 ⟨x, List.mem_filter.2 ⟨hm, hx⟩, rfl⟩
    exact hne _ this
   ·simp at hm
    rw [hm] at hx
    cases hx
theorem exL_ne {g : GV} {p q : Nat} {t : TV} {D R : List EV} {x : EV} (h : D ++ x :: R = evT p q t) (hD : D ≠ []) : ∃ l, exL g D = 32 :: l := by
 rw [evT_eq] at h
 cases D with
 | nil => exact absurd rfl hD
 | cons d D =>
  simp only [List.cons_append, List.cons.injEq] at h
  obtain ⟨h1, -⟩ := h
  subst h1
  exact ⟨hdP g t ++ exL g D, by simp [exL, evX]⟩
def PlAll (g : GV) (t : TV) : Prop := AllP (PlOk g) t
theorem ev_mem {P : TV -> Prop} (t : TV) : ∀ (p q : Nat), AllP P t -> ∀ x ∈ evT p q t, P x.t := by
 induction t using TV.ind with
 | _ t ih =>
  intro p q h x hx
  rw [evT_eq] at hx
  simp only [List.cons_append, List.mem_cons, List.mem_append, List.not_mem_nil, or_false] at hx
  rcases hx with rfl | hx | rfl
  ·exact h.here
  ·obtain ⟨y, hy, hx⟩ := List.mem_flatMap.1 hx
   exact ih _ (kidF_mem hy) _ _ (h.kid _ (kidF_mem hy)) x hx
  ·exact h.here
set_option linter.unusedSimpArgs false in
set_option maxRecDepth 100000 in
set_option maxHeartbeats 4000000 in
theorem printed_W (g : GV) (p0 : Nat) (t : TV) (w : World) (hg : GAt 140737488355328 w g) (hr : w.heap[p0]? = some (tBox t)) (ht : TAt w t) (hne : ∀ a ∈ adsL (kidsA t), a.1 ≠ p0) (hsz : szT t <= 100000000) (hpl : PlAll g t) (hn1 : ∀ s ∈ g.ts, s.size <= 32) (hn2 : ∀ s ∈ g.ns, s.size <= 32) :
  Calls Tryz.prog 18 #[g.val, .pointer (some ⟨p0, 0, none⟩)] w fun e w' => e = .returned (.string ⟨(txT g t).toArray⟩) /\ Below w.heap.size w w' := by
 have htb : TBx w p0 0 t := by
  obtain ⟨a, b, c, d⟩ := tb_cells hr
  exact ⟨lt_of_block hr, a, b, c, d⟩
 have CW : Hid (∀ w1, PTs w g p0 0 [] w1 -> Calls Tryz.prog 43 #[.pointer (some ⟨p0, 0, none⟩), fnV 44 #[.pointer (some ⟨w.heap.size + 1, 0, none⟩), .pointer (some ⟨w.heap.size + 2, 0, none⟩), .pointer (some ⟨w.heap.size, 0, none⟩)], fnV 47 #[.pointer (some ⟨w.heap.size + 2, 0, none⟩)]] w1 fun e w' => e = .returned (.tuple #[]) /\ PTs w g p0 0 (txT g t) w') := fun w1 h1 => by
  refine (walkAround_R (St := fun D w' => PTs w g p0 0 ((exL g D).drop 1) w') (Fin := fun _ => False) ⟨ent_print1, ent_print2, htb, ht, hsz, fun D w w' h hn => h.still hn, fun D w h => h.bel, fun D p q t' R hD hT w2 h2 => ?_, fun D p q t' R hD hT w2 h2 => ?_⟩ w1 h1).mono ?_
  ·have hD' := ev_bound hD hsz
   have hl := exL_len hn1 hn2 D
   obtain ⟨f1, f2⟩ := evT_head hD rfl hne
   have ok := ev_mem t p0 0 hpl ⟨true, p, q, t'⟩ (by rw [<- hD]; simp)
   refine (print1_W w g p0 0 p q t' _ w2 h2 hg hT ok D.isEmpty ⟨fun e => ?_, fun e => ?_⟩ ⟨t, hr⟩ ((exL g (D ++ [⟨true, p, q, t'⟩])).drop 1) ?_ ?_ hn1 hn2).mono fun e w' ⟨e1, e2, e3⟩ => ⟨true, e1, e2, fun _ => e3, fun q => by cases q⟩
   ·have := f1 (List.isEmpty_iff.1 e)
    cases this
    exact ⟨rfl, rfl⟩
   ·exact f2 (fun z => by rw [z] at e; cases e)
   ·rw [exL_app, exL_in]
    cases hd : D with
    | nil => simp [exL]
    | cons d D2 =>
     rw [<- hd]
     obtain ⟨l, hl⟩ := exL_ne (g := g) hD (by rw [hd]; simp)
     rw [hl, hd]
     simp
   ·rw [List.length_drop]
    omega
  ·have hD' := ev_bound hD hsz
   have hl := exL_len hn1 hn2 D
   refine (print2_W w g p0 0 p q t' _ w2 h2 hT ((exL g (D ++ [⟨false, p, q, t'⟩])).drop 1) ?_ ?_).mono fun e w' ⟨e1, e2, e3⟩ => ⟨e1, e2, e3⟩
   ·rw [exL_app, exL_out]
    cases hd : D with
    | nil =>
     rw [hd, evT_eq] at hD
     simp at hD
    | cons d D2 =>
     rw [<- hd]
     obtain ⟨l, hl⟩ := exL_ne (g := g) hD (by rw [hd]; simp)
     rw [hl]
     simp
   ·rw [List.length_drop]
    omega
  ·rintro e w' ⟨e1, e2 | e2⟩
   ·have e2 : PTs w g p0 0 ((exL g (evT p0 0 t)).drop 1) w' := e2
    rw [evT_text] at e2
    exact ⟨e1, e2⟩
   ·exact e2.elim
 have S0 : Hid (PTs w g p0 0 [] (((w.alloc (gBox g)).alloc (ptBox (some ⟨p0, 0, none⟩))).alloc (.cells #[.pointer none, .slice none 0 0] 109))) := by
  have k : ∀ (j : Nat) (o o' : Obj) (v : World), v.heap[j]? = some o -> (v.alloc o').heap[j]? = some o := fun j o o' v h => ((below_alloc v o').block j (lt_of_block h)).trans h
  have e : ∀ (v : World) (o : Obj), (v.alloc o).heap.size = v.heap.size + 1 := fun v o => by simp
  have bl : ∀ (v : World) (o : Obj), Below w.heap.size w v -> Below w.heap.size w (v.alloc o) := fun v o h => h.trans ((below_alloc v o).mono h.size)
  refine ⟨bl _ _ (bl _ _ (bl _ _ (Below.refl _ _))), k _ _ _ _ (k _ _ _ _ (heap_alloc_new _ _)), ?_, .inl ⟨by omega, .slice none 0 0, ?_, World.ownsRow_nil _ _ _ _, by simp [Value.ownBlock]⟩⟩
  ·have := heap_alloc_new (w.alloc (gBox g)) (ptBox (some ⟨p0, 0, none⟩))
   rw [e] at this
   exact k _ _ _ _ this
  ·have := heap_alloc_new ((w.alloc (gBox g)).alloc (ptBox (some ⟨p0, 0, none⟩))) (.cells #[.pointer none, .slice none 0 0] 109)
   rw [e, e] at this
   exact this
 have CS : Hid (∀ w1, PTs w g p0 0 (txT g t) w1 -> Calls Tryz.prog 48 #[.pointer (some ⟨w.heap.size + 2, 0, none⟩)] w1 fun e w' => e = .returned (.string ⟨(txT g t).toArray⟩) /\ Below w.heap.size w w') := fun w1 h1 => (bstr_P h1.tx h1.bel.size).mono fun e w' ⟨e1, e2⟩ => ⟨e1, h1.bel.trans e2⟩
 clear htb hg hr ht hne hsz hpl hn1 hn2
 generalize txT g t = tx at *
 go_enter Tryz.func18, Tryz.ntmps18
 go_upto_region 2 with fail
 refine wp_world (fun w' => PTs w g p0 0 [] w') S0.out fun w1 h1 => ?_
 have H1 : Hid (PTs w g p0 0 [] w1) := h1
 have pb := ptP h1.pb
 clear h1 S0
 go_wp2_with (first
  | (go_at_call 43; refine (CW.out _ H1.out).mono ?_; rintro e w2 ⟨rfl, k2⟩; have H2 : Hid (PTs w g p0 0 tx w2) := k2; clear k2 pb)
  | (go_at_call 48; refine (CS.out _ H2.out).mono ?_; rintro e w3 ⟨rfl, b3⟩; have R : Hid (Below w.heap.size w w3) := b3; clear b3))
 go_ret
 exact ⟨rfl, R.out⟩
theorem plAll_of {g : GV} (hc : OkC g) {t : TV} (h : RT g t) : PlAll g t := fun d y hy => by
 rcases h d y hy with ⟨h1, h2, h3, -⟩ | ⟨h1, h2, -⟩
 ·exact .inl ⟨h1, h2, h3⟩
 ·have := hc.left y.t.prod.toNat (by omega)
  exact .inr ⟨h1, h2, this⟩
theorem rt_of {g : GV} {t : TV} (h : (runU g (ckT g (0, 0) false t) 0).1 = 0) : RT g t := RT.of t (0, 0) false (runU_zero _ 0 h)
theorem noLk_of {g : GV} {t : TV} (h : RT g t) : NoLk t := fun d y hy hp => by
 rcases h d y hy with ⟨-, -, -, h4⟩ | ⟨h1, -, -⟩
 ·exact h4
 ·exact absurd hp (by omega)
def prEr (g : GV) (er : Int) (t : TV) : Int := if er = 0 then (runU g (ckT g (0, 0) false t) 0).1 else er
def prTx (g : GV) (er : Int) (t : TV) : ByteArray := if prEr g er t = 0 then ⟨(txT g t).toArray⟩ else ⟨#[]⟩
set_option linter.unusedSimpArgs false in
set_option maxRecDepth 100000 in
set_option maxHeartbeats 4000000 in
theorem Print_W (g : GV) (t : TV) (w : World) (h : GAt 140737488355328 w g) (hpc : g.ps.length <= g.pc) (er at_ : Int) (hE : checkG g (checkF g.ts g.ns) = (er, at_)) (ht : TAt w t) (hsz : szT t <= 100000000) :
  Calls Tryz.prog 6 #[g.val, t.val] w fun e w' => e = .returned (.tuple #[.string (prTx g er t), .int .i64 (prEr g er t)]) /\ Below w.heap.size w w' := by
 have BA : Hid (Below w.heap.size w ((w.alloc (gBox g)).alloc (tBox t)) /\ ((w.alloc (gBox g)).alloc (tBox t)).heap[w.heap.size]? = some (gBox g) /\ ((w.alloc (gBox g)).alloc (tBox t)).heap[w.heap.size + 1]? = some (tBox t)) := by
  have h1 := below_alloc w (gBox g)
  have h2 := below_alloc (w.alloc (gBox g)) (tBox t)
  refine ⟨h1.trans (h2.mono h1.size), (h2.block _ (by simp)).trans (heap_alloc_new _ _), ?_⟩
  have := heap_alloc_new (w.alloc (gBox g)) (tBox t)
  rwa [show (w.alloc (gBox g)).heap.size = w.heap.size + 1 by simp] at this
 obtain ⟨n2, hn2⟩ : ∃ n2 : Int, (if er = 0 then ((runU g (ckT g (0, 0) false t) 0).2 : Int) else 0) = n2 := ⟨_, rfl⟩
 have CC : Hid (∀ w', Below w.heap.size w w' -> Calls Tryz.prog 17 #[g.val, t.val] w' fun e w'' => e = .returned (.tuple #[.int .i64 (prEr g er t), .int .i64 n2]) /\ Below w'.heap.size w' w'') := fun w' hb => by
  have := Check_W g t w' (h.later hb) hpc er at_ hE (ht.later hb) hsz
  rw [hn2] at this
  exact this
 have CP : Hid (prEr g er t = 0 -> ∀ w', Below w.heap.size w w' -> w'.heap[w.heap.size + 1]? = some (tBox t) -> Calls Tryz.prog 18 #[g.val, .pointer (some ⟨w.heap.size + 1, 0, none⟩)] w' fun e w'' => e = .returned (.string (prTx g er t)) /\ Below w'.heap.size w' w'') := fun he w' hb hbx => by
  have he0 : er = 0 := by
   unfold prEr at he
   by_cases z : er = 0
   ·exact z
   ·rw [if_neg z] at he; exact absurd he z
  have hr0 : (runU g (ckT g (0, 0) false t) 0).1 = 0 := by unfold prEr at he; rwa [if_pos he0] at he
  have hc : OkC g := OkC.of (by rw [hE]; exact he0)
  have := printed_W g (w.heap.size + 1) t w' (h.later hb) hbx (ht.later hb) (fun a ha => by have := kids_lt ht ha; omega) hsz (plAll_of hc (rt_of hr0)) hc.ts hc.ns
  unfold prTx
  rw [if_pos he]
  exact this
 have hS : Hid (prEr g er t ≠ 0 -> prTx g er t = ⟨#[]⟩) := fun he => by unfold prTx; rw [if_neg he]
 clear h hpc hE ht hsz hn2
 generalize prTx g er t = S at *
 generalize prEr g er t = E at *
 go_enter Tryz.func6, Tryz.ntmps6
 go_upto_region 1 with fail
 refine wp_world (fun w' => Below w.heap.size w w' /\ w'.heap[w.heap.size]? = some (gBox g) /\ w'.heap[w.heap.size + 1]? = some (tBox t)) BA.out fun w1 h1 => ?_
 have H1 : Hid (Below w.heap.size w w1 /\ w1.heap[w.heap.size]? = some (gBox g) /\ w1.heap[w.heap.size + 1]? = some (tBox t)) := h1
 clear h1 BA
 obtain ⟨g0, g1, g2, g3, g4⟩ := gbx_cells H1.out.2.1
 obtain ⟨c0, c1, c2, c3⟩ := tb_cells H1.out.2.2
 go_upto_region 2 with (go_at_call 17; refine (CC.out _ H1.out.1).mono ?_; rintro e w2 ⟨rfl, b2⟩; have H2 : Hid (Below w.heap.size w w2 /\ w2.heap[w.heap.size]? = some (gBox g) /\ w2.heap[w.heap.size + 1]? = some (tBox t)) := ⟨H1.out.1.trans (b2.mono H1.out.1.size), (b2.block _ (lt_of_block H1.out.2.1)).trans H1.out.2.1, (b2.block _ (lt_of_block H1.out.2.2)).trans H1.out.2.2⟩; clear b2 g0 g1 g2 g3 g4 c0 c1 c2 c3)
 clear H1 CC
 by_cases he : E = 0
 ·subst he
  have CQ : Hid (Calls Tryz.prog 18 #[g.val, .pointer (some ⟨w.heap.size + 1, 0, none⟩)] w2 fun e w'' => e = .returned (.string S) /\ Below w2.heap.size w2 w'') := CP.out rfl w2 H2.out.1 H2.out.2.2
  clear CP hS
  obtain ⟨g0, g1, g2, g3, g4⟩ := gbx_cells H2.out.2.1
  go_wp2_with (go_at_call 18; refine CQ.out.mono ?_; rintro e w3 ⟨rfl, b3⟩; have R : Hid (Below w.heap.size w w3) := H2.out.1.trans (b3.mono H2.out.1.size); clear b3)
  go_ret2
  exact ⟨rfl, R.out⟩
 ·have t1 : (E != 0) = true := by simpa using he
  have hS0 := hS.out he
  subst hS0
  clear CP hS
  go_wp2
  go_ret2
  exact ⟨rfl, H2.out.1⟩
open Go.RowKit
theorem IL.popP {wr : World} {v : Value} {D : List Int} {x : Int} (h : IL wr v (D ++ [x])) : ∃ b c, v = .slice (some ⟨b, 0, none⟩) (D.length + 1) c /\ D.length + 1 <= c /\ wr.cell? ⟨b, D.length, none⟩ = some (.int .i64 x) /\ IL wr (.slice (some ⟨b, 0, none⟩) D.length c) D := by
 unfold IL at h
 rw [show (D ++ [x]).length = D.length + 1 by simp] at h
 rcases h.2 with ⟨_, h0⟩ | ⟨b, cap, cur, rfl, h1, h2, h3, h4, h5, h6⟩
 ·omega
 ·refine ⟨b, cap, rfl, h3, ?_, ⟨by simp, .inr ⟨b, cap, cur, rfl, h1, h2, by omega, h4, h5, ?_⟩⟩⟩
  ·rw [World.ownsRow.cellAt h D.length (by omega)]
   simp
  ·have e : cur.toList.take (D.length * 1) = (cur.toList.take ((D.length + 1) * 1)).take D.length := by rw [List.take_take]; congr 1; omega
   rw [e, h6]
   simp
theorem slice_toP (b lc len i : Nat) (hi : i <= lc) (w : World) : (Instr.slice 63 (.slice (some ⟨b, 0, none⟩) len lc) none (some (.int .i64 (i : Int))) none).run Tryz.prog w = .ok (.slice (some ⟨b, 0, none⟩) i lc) w := by
 obtain ⟨i0, hinf, _, hz1, _⟩ := infoInt_parts
 have hu : Tryz.prog.underlying 63 = some (.slice (Tryz.prog.elem 63)) := by kernel_rfl
 have he : Tryz.prog.elem 63 = 3 := by kernel_rfl
 have := run_slice_h (P := Tryz.prog) (w := w) 63 (some ⟨b, 0, none⟩) len lc hu .i64 (i : Int) (by omega) (by omega)
 rw [this, he]
 simp [sizeOf, typeInfo, hinf, hz1]
 unfold sliced
 split <;> simp [add_none]
def lenP : Value -> Nat
 | .slice _ n _ => n
 | _ => 0
theorem clPr_sum (d : Int) : ∀ (O : List Int) (s : List UInt8), (clPr d O s).2.length + (clPr d O s).1.length = s.length + O.length
 | [], s => rfl
 | o :: O, s => by
  rw [clPr]
  split
  ·rw [clPr_sum d O]; simp; omega
  ·rfl
theorem stP_sum {g : GV} (h1 : ∀ s ∈ g.ts, s.size <= 32) (h2 : ∀ s ∈ g.ns, s.size <= 32) (b : Bool) (S : List Int × List UInt8) (x : SP) : (stP g b S x).2.length + (stP g b S x).1.length <= S.2.length + S.1.length + 35 := by
 have a0 := clPr_sum x.d S.1 S.2
 have a1 : (nmT g x.t).length <= 32 := getD_size h1 _
 have a2 : (nmN g x.t).length <= 32 := getD_size h2 _
 have a3 : (blP b).length <= 1 := by unfold blP; split <;> simp
 unfold stP hdP
 dsimp only
 by_cases p : x.t.prod = -1
 ·rw [if_pos p, if_pos p]; simp only [List.length_append]; omega
 ·rw [if_neg p, if_neg p]; simp only [List.length_append, List.length_cons]; omega
theorem foP_sum {g : GV} (h1 : ∀ s ∈ g.ts, s.size <= 32) (h2 : ∀ s ∈ g.ns, s.size <= 32) : ∀ (l : List SP) (b : Bool) (S : List Int × List UInt8), (foP g b l S).2.length + (foP g b l S).1.length <= S.2.length + S.1.length + 35 * l.length
 | [], b, S => by simp [foP]
 | x :: l, b, S => by
  have a := foP_sum h1 h2 l true (stP g b S x)
  have c := stP_sum h1 h2 b S x
  rw [foP, List.length_cons]
  omega
theorem foP_snoc (g : GV) (l : List SP) (x : SP) (S : List Int × List UInt8) : foP g false (l ++ [x]) S = stP g (decide (0 < l.length)) (foP g false l S) x := by
 cases l with
 | nil => rfl
 | cons y l => rw [foP_app g _ _ _ _ (by simp)]; rfl
structure DPs (w : World) (g : GV) (P : List SP) (vp : Value) (hb : Nat) (O : List Int) (vo : Value) (wr : World) : Prop where
 bel : Below w.heap.size w wr
 gb : wr.heap[w.heap.size]? = some (gBox g)
 p : SPo wr vp P
 po : ∀ j, vp.ownBlock = some j -> w.heap.size < j /\ j < hb
 o : IL wr vo O.reverse
 oo : ∀ j, vo.ownBlock = some j -> hb <= j
 sz : w.heap.size < hb /\ hb <= wr.heap.size
theorem DPs.any {w : World} {g : GV} {P : List SP} {vp : Value} {hb : Nat} {O : List Int} {vo : Value} {wr w' : World} (h : DPs w g P vp hb O vo wr) (hb' : Below wr.heap.size wr w') : DPs w g P vp hb O vo w' :=
 ⟨h.bel.trans (hb'.mono h.bel.size), (hb'.block _ (lt_of_block h.gb)).trans h.gb, h.p.later hb', h.po, h.o.later hb', h.oo, h.sz.1, Nat.le_trans h.sz.2 hb'.size⟩
theorem DPs.push {w : World} {g : GV} {P : List SP} {vp : Value} {hb : Nat} {O : List Int} {vo v' : Value} {d : Int} {wr w1 w4 : World} (h : DPs w g P vp hb O vo wr) (hb1 : Below wr.heap.size wr w1) (hg : Grew w1 w4 vo v') (hi : IL w4 v' (O.reverse ++ [d])) : DPs w g P vp hb (d :: O) v' w4 := by
 have h1 := h.any hb1
 have hs := h.sz
 have hs1 := h1.sz
 refine ⟨hg.below h1.bel (Nat.le_refl _) (fun j hj => by have := h.oo j hj; omega), (hg.grown.block _ (lt_of_block h1.gb) (fun e => by have := h.oo _ e.symm; omega)).trans h1.gb, h1.p.kept (fun j hj => hg.grown.block j (h1.p.lt j hj) (fun e => by have := h.oo j e.symm; have := (h.po j hj).2; omega)), h.po, by simpa using hi, fun j hj => hg.own (n := hb) hs1.2 h.oo j hj, hs.1, Nat.le_trans hs1.2 hg.grown.size⟩
theorem DPs.pop {w : World} {g : GV} {P : List SP} {vp : Value} {hb : Nat} {O : List Int} {d : Int} {vo : Value} {wr : World} (h : DPs w g P vp hb (d :: O) vo wr) : ∃ b c, vo = .slice (some ⟨b, 0, none⟩) (O.length + 1) c /\ O.length + 1 <= c /\ wr.cell? ⟨b, O.length, none⟩ = some (.int .i64 d) /\ DPs w g P vp hb O (.slice (some ⟨b, 0, none⟩) O.length c) wr := by
 have ho := h.o
 rw [List.reverse_cons] at ho
 obtain ⟨b, c, rfl, h1, h2, h3⟩ := IL.popP ho
 rw [List.length_reverse] at h1 h2 h3 ⊢
 exact ⟨b, c, rfl, h1, h2, h.bel, h.gb, h.p, h.po, h3, fun j hj => h.oo j hj, h.sz⟩
theorem DPs.at {w : World} {g : GV} {P : List SP} {pb pc hb : Nat} {O : List Int} {vo : Value} {wr : World} (h : DPs w g P (.slice (some ⟨pb, 0, none⟩) P.length pc) hb O vo wr) {k : Nat} {x : SP} (hk : P[k]? = some x) : wr.cell? ⟨pb, k * 8, none⟩ = some (.int .i64 x.t.prod) /\ wr.cell? ⟨pb, k * 8 + 1, none⟩ = some (.int .i64 x.t.kind) /\ wr.cell? ⟨pb, k * 8 + 4, none⟩ = some (.int .i64 x.d) := by
 obtain ⟨hlt, hx⟩ := List.getElem?_eq_some_iff.1 hk
 obtain ⟨b', c', hv, -, hc⟩ := RO.cell (f := spCells) (fun _ => rfl) h.p hlt
 simp only [Value.slice.injEq, true_and] at hv
 obtain ⟨e, -⟩ := hv
 simp only [Option.some.injEq, Addr.mk.injEq, and_true] at e
 subst e
 rw [hx] at hc
 have c0 := hc 0 (by omega)
 have c1 := hc 1 (by omega)
 have c4 := hc 4 (by omega)
 simp only [spCells, List.getElem?_cons_zero, List.getElem?_cons_succ, Nat.add_zero] at c0 c1 c4
 exact ⟨c0, c1, c4⟩
theorem catB (s t : ByteArray) : (s ++ t).data.toList = s.data.toList ++ t.data.toList := by simp
theorem bytes_eq {s : ByteArray} {l : List UInt8} (h : s.data.toList = l) : s = ⟨l.toArray⟩ := by
 subst h
 cases s
 simp
end Go.Proofs.YtndbdliaidbocaaGreat
