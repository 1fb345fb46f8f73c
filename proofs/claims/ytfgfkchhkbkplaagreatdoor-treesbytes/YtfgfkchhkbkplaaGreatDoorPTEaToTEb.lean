import Derived.Test.YtfgfkchhkbkplaaGreatDoorPTAToTE9
import Derived.Test.YtfgfkchhkbkplaaGreatDoorPTE6
import Derived.Test.YtfgfkchhkbkplaaGreatDoorPTS1ToTS3
import Derived.Test.YtfgfkchhkbkplaaGreatDoorPTD3ToTSm
import Derived.Test.YtfgfkchhkbkplaaGreatDoorPTW8
namespace Go.Proofs.YtfgfkchhkbkplaaGreatDoor
set_option linter.unusedVariables false
open Go.RowKit
theorem enc_ok {t : TV} (h : (encU t).2 = 0) : encU t = (C.frame 3 (encT t), 0) /\ CdT t /\ (encT t).length <= 16777216 /\ decU (C.frame 3 (encT t)) = (some (cln t), 0, 0) := by
 unfold encU at h ⊢
 by_cases h0 : fcT t = 0
 ·rw [if_neg (by simpa using h0)] at h ⊢
  have hc := cd_all (zero_fc h0)
  by_cases h1 : 16777216 < lsA t
  ·rw [if_pos h1] at h; cases h
  ·rw [if_neg h1] at h ⊢
   dsimp only at h
   unfold sealE at h ⊢
   unfold sealB
   by_cases h2 : 16777216 < (encT t).length
   ·rw [if_pos h2] at h; cases h
   ·rw [if_neg h2, if_neg h2]
    refine ⟨rfl, hc, by omega, ?_⟩
    have hd := dec_enc hc (by omega) ((encT t).length + 2) (by have := sz_enc t; omega)
    unfold decU
    rw [C.open_frame 3 (encT t) (by omega)]
    dsimp only
    rw [if_neg (by simp), hd]
    dsimp only
    have e : C.endS (encT t) (encT t).length 0 = (0, 0) := by
     unfold C.endS
     rw [if_neg (by simp), if_neg (by omega)]
    rw [e, if_neg (by simp)]
    rfl
 ·rw [if_pos h0] at h; exact absurd h h0
theorem enc_no {t : TV} (h : (encU t).2 ≠ 0) : (encU t).1 = [] := by
 unfold encU at h ⊢
 by_cases h0 : fcT t = 0
 ·rw [if_neg (by simpa using h0)] at h ⊢
  by_cases h1 : 16777216 < lsA t
  ·rw [if_pos h1]
  ·rw [if_neg h1] at h ⊢
   dsimp only at h ⊢
   unfold sealE at h
   unfold sealB
   by_cases h2 : 16777216 < (encT t).length
   ·rw [if_pos h2]
   ·rw [if_neg h2] at h; exact absurd rfl h
 ·rw [if_pos h0]
theorem wt_enc (t : TV) : CdT t -> wtT t <= 3 * (encT t).length := by
 intro h
 have := all_cd t h
 unfold encT wtT
 generalize preT t = l at *
 induction l with
 | nil => exact Nat.le_refl _
 | cons a l ih =>
  rw [List.map_cons, List.sum_cons, List.flatMap_cons, List.length_append]
  have h1 := ih fun x hx => this x (List.mem_cons_of_mem _ hx)
  have hc := this a (List.mem_cons_self ..)
  have h2 : 3 + a.tx.size <= 3 * (plB a).length := by
   have q := enc_posT (a.prod + 1)
   unfold plB
   rw [List.length_append]
   by_cases hp : a.prod = -1
   ·rw [if_pos hp, List.length_append]
    unfold encS
    rw [List.length_append, C.strBytes_len]
    omega
   ·rw [if_neg hp]
    obtain ⟨-, -, -, hx⟩ := cd_node hc hp
    have : a.tx.size = 0 := by rw [ba_nil hx]; rfl
    omega
  omega
theorem wt_sam (a : TV) : ∀ b, samV a b -> wtT a = wtT b := by
 induction a using TV.ind with
 | _ a ih =>
  intro b h
  obtain ⟨q1, q2, q3, q4⟩ := sg_parts ((samV_iff _ _).1 h).1
  rw [wtT_eq, wtT_eq b, q3]
  have e : wtL a.kids = wtL b.kids := by
   have key : ∀ l m : List TV, l.length = m.length -> (∀ i (h1 : i < l.length) (h2 : i < m.length), wtT l[i] = wtT m[i]) -> wtL l = wtL m := fun l => by
    induction l with
    | nil =>
     intro m hm _
     cases m with
     | nil => rfl
     | cons y m => cases hm
    | cons x l il =>
     intro m hm hh
     cases m with
     | nil => cases hm
     | cons y m =>
      rw [wtL_cons, wtL_cons, il m (by simpa using hm) (fun i h1 h2 => by have := hh (i + 1) (by simpa using h1) (by simpa using h2); simpa using this)]
      have := hh 0 (by simp) (by simp)
      simp only [List.getElem_cons_zero] at this
      rw [this]
   exact key _ _ q4 fun i h2 h3 => ih _ (List.getElem_mem h2) _ ((samV_kids h).2 i h2 h3)
  rw [e]
theorem ls_enc (t : TV) : CdT t -> lsA t <= (encT t).length := by
 intro h
 have := all_cd t h
 unfold encT lsA
 generalize preT t = l at *
 induction l with
 | nil => exact Nat.le_refl _
 | cons a l ih =>
  rw [List.map_cons, List.sum_cons, List.flatMap_cons, List.length_append]
  have h1 := ih fun x hx => this x (List.mem_cons_of_mem _ hx)
  have h2 : lsZ a <= (plB a).length := by
   have q := enc_posT (a.prod + 1)
   unfold plB lsZ
   rw [List.length_append]
   by_cases hp : a.prod = -1
   ·rw [if_pos hp, if_pos hp, List.length_append]
    have q2 := enc_posT (C.foldS a.kind)
    have q3 := enc_posT (a.tx.size : Int)
    unfold encS
    rw [List.length_append, C.strBytes_len]
    omega
   ·rw [if_neg hp, if_neg hp]
    have q2 := enc_posT (a.kids.length : Int)
    omega
  omega
theorem enc_of {t : TV} (h : CdT t) (hl : (encT t).length <= 16777216) : encU t = (C.frame 3 (encT t), 0) := by
 have := ls_enc t h
 unfold encU
 rw [if_neg (by rw [fc_zero (all_cd t h)]; simp), if_neg (by omega), sealB, sealE, if_neg (by omega), if_neg (by omega)]
theorem frame_leT (k : Int) (xs : List Int) : (C.frame k xs).length <= xs.length + 100 := by
 have := C.enc_len 10 (xs.length : Int)
 simp [C.frame, C.lead, C.headBytes, C.sumBytes]
 omega
theorem dec_ok {xs : List Int} (hb : C.isBytes xs) (h : (decU xs).2.1 = 0) : ∃ u, decU xs = (some u, 0, 0) /\ CdT u /\ C.frame 3 (encT u) = xs /\ (encT u).length <= 16777216 /\ encU u = (xs, 0) /\ szT u <= xs.length /\ wtT u <= 100000000 := by
 unfold decU at h ⊢
 obtain ⟨zs, oe, oa, hF⟩ : ∃ zs oe oa, C.openS 3 xs = (zs, oe, oa) := ⟨_, _, _, rfl⟩
 rw [hF] at h ⊢
 dsimp only at h ⊢
 by_cases h0 : oe = 0
 ·subst h0
  obtain ⟨hfr, hzl, hbz, -⟩ := C.frame_open 3 xs hb zs oa hF
  rw [if_neg (by simp)] at h ⊢
  by_cases h1 : (C.endS zs (dcL zs (zs.length + 2) ([], []) 0 0).2.1 (dcL zs (zs.length + 2) ([], []) 0 0).2.2).1 = 0
  ·obtain ⟨u, hu, hc, he⟩ := dec_back hbz h1
   rw [if_neg (by simpa using h1), hu]
   have hel : (encT u).length <= 16777216 := by rw [he]; exact hzl
   refine ⟨u, rfl, hc, by rw [he]; exact hfr, hel, ?_, ?_, ?_⟩
   ·rw [enc_of hc hel, he, hfr]
   ·have h2 := sz_enc u
    have h3 := frame_ge 3 zs
    rw [hfr] at h3
    rw [he] at h2
    omega
   ·have := wt_enc u hc
    omega
  ·rw [if_pos h1] at h
   exact absurd h h1
 ·rw [if_pos h0] at h
  exact absurd h h0
theorem dec_no {xs : List Int} (hb : C.isBytes xs) (h : (decU xs).2.1 ≠ 0) : ∃ e at_, decU xs = (none, e, at_) /\ e ≠ 0 /\ 0 <= at_ /\ at_ <= xs.length := by
 unfold decU at h ⊢
 obtain ⟨zs, oe, oa, hF⟩ : ∃ zs oe oa, C.openS 3 xs = (zs, oe, oa) := ⟨_, _, _, rfl⟩
 rw [hF] at h ⊢
 dsimp only at h ⊢
 by_cases h0 : oe = 0
 ·subst h0
  obtain ⟨hfr, hzl, hbz, -⟩ := C.frame_open 3 xs hb zs oa hF
  rw [if_neg (by simp)] at h ⊢
  by_cases h1 : (C.endS zs (dcL zs (zs.length + 2) ([], []) 0 0).2.1 (dcL zs (zs.length + 2) ([], []) 0 0).2.2).1 = 0
  ·rw [if_neg (by simpa using h1)] at h
   exact absurd rfl h
  ·rw [if_pos h1]
   have hok := dcL_ok hbz (zs.length + 2) ([], []) 0 (by omega) ⟨⟨(fun f hf => by cases hf), (fun t ht => by cases ht), .inl rfl⟩, rfl, Nat.le_refl _, Nat.zero_le _⟩
   obtain ⟨A, p, e, hr⟩ : ∃ A p e, dcL zs (zs.length + 2) ([], []) 0 0 = (A, p, e) := ⟨_, _, _, rfl⟩
   rw [hr] at hok h1 ⊢
   dsimp only at hok h1 ⊢
   have hp : p <= zs.length := by
    rcases hok with ⟨-, -, q⟩ | ⟨-, -, q⟩
    ·exact q
    ·exact q.pl
   obtain ⟨ee, ea, hE⟩ : ∃ ee ea, C.endS zs p e = (ee, ea) := ⟨_, _, rfl⟩
   obtain ⟨b1, b2, -⟩ := endS_bd hp hE
   rw [hE] at h1 ⊢
   have h3 := frame_ge 3 zs
   rw [hfr] at h3
   exact ⟨_, _, rfl, h1, by dsimp only; omega, by dsimp only; omega⟩
 ·rw [if_pos h0]
  have := C.open_err 3 xs hb (by rw [hF]; exact h0)
  rw [hF] at this
  exact ⟨_, _, rfl, h0, this.2.1, this.2.2⟩
theorem ta_none (w : World) : TAt w TV.none := .mk _ (fun h => absurd rfl h) (fun k hk => by cases hk)
section
variable {w : World} {t : TV} {xs : List Int}
theorem encOk_W (he : (encU t).2 = 0) {w' : World} (ht : TAt w' t) (hw : wtT t <= 100000000) (hm : C.Magic w') : Calls Tryz.prog 7 #[t.val] w' fun e w'' => ∃ a c, e = .returned (.tuple #[.slice a (C.frame 3 (encT t)).length c, .int .i64 0]) /\ C.RowAt w'' a (C.frame 3 (encT t)) /\ (C.frame 3 (encT t)).length <= c /\ Below w'.heap.size w' w'' := (enc_W ht hw hm).mono fun e w'' ⟨h1, a, N, c, h2, h3⟩ => by
 obtain ⟨k1, -⟩ := enc_ok he
 rw [k1] at h2 h3
 obtain ⟨a', c', e1, e2, e3⟩ := C.Own.row h3
 have e4 := C.own_len h3
 simp only [Value.slice.injEq] at e1
 obtain ⟨rfl, rfl, rfl⟩ := e1
 exact ⟨_, _, h2, e3, C.own_cap h3, h1⟩
theorem encNo_W (he : (encU t).2 ≠ 0) {w' : World} (ht : TAt w' t) (hw : wtT t <= 100000000) (hm : C.Magic w') : Calls Tryz.prog 7 #[t.val] w' fun e w'' => ∃ a c, e = .returned (.tuple #[.slice a 0 c, .int .i64 (encU t).2]) /\ Below w'.heap.size w' w'' := (enc_W ht hw hm).mono fun e w'' ⟨h1, a, N, c, h2, h3⟩ => by
 rw [enc_no he] at h3
 obtain ⟨a', c', e1, e2, e3⟩ := C.Own.row h3
 simp only [Value.slice.injEq] at e1
 obtain ⟨rfl, rfl, rfl⟩ := e1
 exact ⟨a, c, h2, h1⟩
theorem decOk_W {w' : World} {a : Option Addr} {c : Nat} {u : TV} (hd : decU xs = (some u, 0, 0)) (hl : xs.length <= 140737488355328) (hr : C.RowAt w' a xs) (hc : xs.length <= c) (hm : C.Magic w') : Calls Tryz.prog 8 #[.slice a xs.length c] w' fun e w'' => ∃ u', e = .returned (.tuple #[u'.val, .int .i64 0, .int .i64 0]) /\ samV u' u /\ TAt w'' u' /\ Below w'.heap.size w' w'' := (dec_W rfl hl hc hr hm).mono fun e w'' ⟨h1, h2⟩ => by
 unfold dcE at h2
 rw [hd] at h2
 obtain ⟨u', k1, k2, k3⟩ := h2
 exact ⟨u', k3, k1, k2.ta, h1⟩
theorem decNo_W {w' : World} {a : Option Addr} {c : Nat} {e1 at_ : Int} (hd : decU xs = (none, e1, at_)) (hl : xs.length <= 140737488355328) (hr : C.RowAt w' a xs) (hc : xs.length <= c) (hm : C.Magic w') : Calls Tryz.prog 8 #[.slice a xs.length c] w' fun e w'' => e = .returned (.tuple #[TV.none.val, .int .i64 e1, .int .i64 at_]) /\ Below w'.heap.size w' w'' := (dec_W rfl hl hc hr hm).mono fun e w'' ⟨h1, h2⟩ => by
 unfold dcE at h2
 rw [hd] at h2
 exact ⟨h2, h1⟩
structure TyS (w : World) (t u : TV) (bu : Nat) (w' : World) : Prop where
 bel : Below w.heap.size w w'
 tb : w'.heap[w.heap.size]? = some (tBox t)
 ub : w'.heap[bu]? = some (tBox u)
 ua : TAt w' u
theorem TyS.later {u : TV} {bu : Nat} {w' w'' : World} (h : TyS w t u bu w') (hb : Below w'.heap.size w' w'') : TyS w t u bu w'' := ⟨h.bel.trans (hb.mono h.bel.size), (hb.block _ (lt_of_block h.tb)).trans h.tb, (hb.block _ (lt_of_block h.ub)).trans h.ub, h.ua.later hb⟩
set_option linter.unusedSimpArgs false in
set_option maxRecDepth 100000 in
set_option maxHeartbeats 8000000 in
theorem bytes_yy {bo : Option Addr} {cb : Nat} (ht : TAt w t) (hw : wtT t <= 100000000) (hr : C.RowAt w bo xs) (hl : xs.length <= 140737488355328) (hc : xs.length <= cb) (hm : C.Magic w) (he : (encU t).2 = 0) (hd : (decU xs).2.1 = 0) : Calls Tryz.prog 3 #[t.val, .slice bo xs.length cb] w fun e w' => e = .returned (.bool true) /\ Below w.heap.size w w' := by
 have HM : Hid (∀ w', Below w.heap.size w w' -> C.Magic w') := fun w' hb => C.Magic.later hm hb hm.lt
 have HT : Hid (∀ w', Below w.heap.size w w' -> TAt w' t) := fun w' hb => ht.later hb
 have HR : Hid (∀ w', Below w.heap.size w w' -> C.RowAt w' bo xs) := fun w' hb => C.RowAt.later hr hb
 have HL : Hid (xs.length <= 140737488355328 /\ xs.length <= cb /\ wtT t <= 100000000 /\ C.isBytes xs) := ⟨hl, hc, hw, hr.1⟩
 have hli : (xs.length : Int) <= 140737488355328 := by omega
 have X0 : Hid (Below w.heap.size w (w.alloc (tBox t)) /\ (w.alloc (tBox t)).heap[w.heap.size]? = some (tBox t)) := ⟨below_alloc _ _, heap_alloc_new _ _⟩
 have HD : Hid ((decU xs).2.1 = 0) := hd
 clear hd
 obtain ⟨-, -, q3, q4⟩ := enc_ok he
 have HD1 : Hid (decU (C.frame 3 (encT t)) = (some (cln t), 0, 0) /\ (C.frame 3 (encT t)).length <= 140737488355328 /\ samV (cln t) t) := ⟨q4, by have := frame_leT 3 (encT t); omega, cln_cd t (enc_ok he).2.1⟩
 have CE1 : Hid (∀ w', Below w.heap.size w w' -> Calls Tryz.prog 7 #[t.val] w' fun e w'' => ∃ a c, e = .returned (.tuple #[.slice a (C.frame 3 (encT t)).length c, .int .i64 0]) /\ C.RowAt w'' a (C.frame 3 (encT t)) /\ (C.frame 3 (encT t)).length <= c /\ Below w'.heap.size w' w'') := fun w' hb => encOk_W he (HT.out w' hb) hw (HM.out w' hb)
 clear he q3 q4
 clear ht hw hr hl hc hm
 go_enter Tryz.func3, Tryz.ntmps3
 go_upto_region 3 with (go_at_call 6; refine (works_W _).mono ?_; rintro e w1 ⟨rfl, bb⟩; have S1 : Hid (Below w.heap.size w w1 /\ w1.heap[w.heap.size]? = some (tBox t)) := ⟨X0.out.1.trans (bb.mono X0.out.1.size), (bb.block _ (lt_of_block X0.out.2)).trans X0.out.2⟩; clear bb X0; obtain ⟨x0, x1, x2, x3⟩ := tb_cells S1.out.2)
 go_upto_region 4 with (go_at_call 7; refine (CE1.out _ S1.out.1).mono ?_; rintro e w2 ⟨xa, xc, rfl, r2, c2, bb⟩; have S2 : Hid (Below w.heap.size w w2 /\ w2.heap[w.heap.size]? = some (tBox t)) := ⟨S1.out.1.trans (bb.mono S1.out.1.size), (bb.block _ (lt_of_block S1.out.2)).trans S1.out.2⟩; have R2 : Hid (C.RowAt w2 xa (C.frame 3 (encT t)) /\ (C.frame 3 (encT t)).length <= xc) := ⟨r2, c2⟩; clear bb r2 c2 S1 x0 x1 x2 x3)
 have CD1 : Hid (Calls Tryz.prog 8 #[.slice xa (C.frame 3 (encT t)).length xc] w2 fun e w'' => ∃ u', e = .returned (.tuple #[u'.val, .int .i64 0, .int .i64 0]) /\ samV u' (cln t) /\ TAt w'' u' /\ Below w2.heap.size w2 w'') := decOk_W HD1.out.1 HD1.out.2.1 R2.out.1 R2.out.2 (HM.out _ S2.out.1)
 clear R2 CE1
 generalize (C.frame 3 (encT t)).length = fl at *
 go_upto_region 6 with (go_at_call 8; refine CD1.out.mono ?_; rintro e w3 ⟨u, rfl, s3, t3, bb⟩; have S3 : Hid (Below w.heap.size w w3 /\ w3.heap[w.heap.size]? = some (tBox t) /\ TAt w3 u /\ samV u t) := ⟨S2.out.1.trans (bb.mono S2.out.1.size), (bb.block _ (lt_of_block S2.out.2)).trans S2.out.2, t3, samV_trans _ _ _ s3 HD1.out.2.2⟩; clear bb s3 t3 S2 CD1)
 refine wp_world (fun w' => ∃ b, b = w3.heap.size /\ TyS w t u b w') ⟨_, rfl, S3.out.1.trans ((below_alloc _ _).mono S3.out.1.size), ((below_alloc _ _).block _ (lt_of_block S3.out.2.1)).trans S3.out.2.1, heap_alloc_new _ _, S3.out.2.2.1.later (below_alloc _ _)⟩ fun w4 h4 => ?_
 obtain ⟨b4, hb4, h4⟩ := h4
 rw [<- hb4]
 have S4 : Hid (TyS w t u b4 w4 /\ samV u t /\ szT u <= 100000000) := ⟨h4, S3.out.2.2.2, by rw [samV_size _ _ S3.out.2.2.2]; have := sz_wt t; have := HL.out.2.2.1; omega⟩
 clear h4 hb4 S3 HD1
 obtain ⟨x0, x1, x2, x3⟩ := tb_cells S4.out.1.tb
 obtain ⟨y0, y1, y2, y3⟩ := tb_cells S4.out.1.ub
 go_upto_region 10 with (go_at_call 9; refine (sameTree_W u t _ S4.out.1.ua (HT.out _ S4.out.1.bel) S4.out.2.1 S4.out.2.2).mono ?_; rintro e w5 ⟨rfl, bb⟩; have S5 : Hid (Below w.heap.size w w5) := S4.out.1.bel.trans (bb.mono S4.out.1.bel.size); clear bb S4 x0 x1 x2 x3 y0 y1 y2 y3)
 obtain ⟨u2, d1, d2, d3, d4, d5, d6, d7⟩ := dec_ok HL.out.2.2.2 HD.out
 have CD2 : Hid (Calls Tryz.prog 8 #[.slice bo xs.length cb] w5 fun e w'' => ∃ u', e = .returned (.tuple #[u'.val, .int .i64 0, .int .i64 0]) /\ samV u' u2 /\ TAt w'' u' /\ Below w5.heap.size w5 w'') := decOk_W d1 HL.out.1 (HR.out _ S5.out) HL.out.2.1 (HM.out _ S5.out)
 have HU2 : Hid (CdT u2 /\ C.frame 3 (encT u2) = xs /\ encU u2 = (xs, 0) /\ szT u2 <= xs.length /\ wtT u2 <= 100000000) := ⟨d2, d3, d5, d6, d7⟩
 have HEL : Hid ((encT u2).length <= 16777216) := d4
 clear d1 d2 d3 d4 d5 d6 d7 HD
 obtain ⟨xl, hxl⟩ : ∃ xl, xl = xs.length := ⟨_, rfl⟩
 have HXL : Hid (xl = xs.length) := hxl
 rw [<- hxl] at CD2 hli ⊢
 clear hxl
 go_upto_region 11 with (go_at_call 8; refine CD2.out.mono ?_; rintro e w6 ⟨v, rfl, s6, t6, bb⟩; have S6 : Hid (Below w.heap.size w w6 /\ TAt w6 v /\ samV v u2) := ⟨S5.out.trans (bb.mono S5.out.size), t6, s6⟩; clear bb s6 t6 S5 CD2)
 refine wp_world (fun w' => ∃ b, b = w6.heap.size /\ Below w.heap.size w w' /\ w'.heap[b]? = some (tBox v) /\ TAt w' v) ⟨_, rfl, S6.out.1.trans ((below_alloc _ _).mono S6.out.1.size), heap_alloc_new _ _, S6.out.2.1.later (below_alloc _ _)⟩ fun w7 h7 => ?_
 obtain ⟨b7, hb7, h7⟩ := h7
 rw [<- hb7]
 have S7 : Hid (Below w.heap.size w w7 /\ w7.heap[b7]? = some (tBox v) /\ TAt w7 v) := h7
 have HV : Hid (wtT v <= 100000000 /\ szT v <= 100000000 /\ szT v <= xl /\ (encU v).2 = 0 /\ C.frame 3 (encT v) = xs) := by
  obtain ⟨a1, a2, a3, a4, a5⟩ := HU2.out
  have s := S6.out.2.2
  have e1 := encT_sam v u2 s
  have e2 := wt_sam v u2 s
  have e3 := samV_size v u2 s
  have e4 := sz_wt v
  refine ⟨by omega, by omega, by rw [e3, HXL.out]; exact a4, ?_, by rw [e1]; exact a2⟩
  rw [enc_of (cd_sam u2 v (samV_symm v u2 s) a1) (by rw [e1]; exact HEL.out)]
 have hvl : (szT v : Int) <= (xl : Int) := by have := HV.out.2.2.1; omega
 clear h7 hb7 S6 HU2
 obtain ⟨x0, x1, x2, x3⟩ := tb_cells S7.out.2.1
 have CE2 : Hid (Calls Tryz.prog 7 #[v.val] w7 fun e w'' => ∃ a c, e = .returned (.tuple #[.slice a xl c, .int .i64 0]) /\ C.RowAt w'' a xs /\ xs.length <= c /\ Below w7.heap.size w7 w'') := (encOk_W HV.out.2.2.2.1 S7.out.2.2 HV.out.1 (HM.out _ S7.out.1)).mono fun e w'' ⟨a, c, h1, h2, h3, h4⟩ => by
  rw [HV.out.2.2.2.2, <- HXL.out] at h1
  rw [HV.out.2.2.2.2] at h2 h3
  exact ⟨a, c, h1, h2, h3, h4⟩
 go_upto_region 14 with (go_at_call 7; refine CE2.out.mono ?_; rintro e w8 ⟨ya, yc, rfl, r8, c8, bb⟩; have S8 : Hid (Below w.heap.size w w8 /\ w8.heap[b7]? = some (tBox v) /\ TAt w8 v /\ C.RowAt w8 ya xs) := ⟨S7.out.1.trans (bb.mono S7.out.1.size), (bb.block _ (lt_of_block S7.out.2.1)).trans S7.out.2.1, S7.out.2.2.later bb, r8⟩; clear bb r8 c8 S7 CE2 x0 x1 x2 x3; obtain ⟨x0, x1, x2, x3⟩ := tb_cells S8.out.2.1)
 have CM : Hid (Calls Tryz.prog 10 #[v.val] w8 fun e w' => (∃ l h, e = .returned (.tuple #[.int .i64 (szT v : Int), l, h])) /\ Below w8.heap.size w8 w') := (measure_W v w8 S8.out.2.2.1 HV.out.2.1).mono fun e w' ⟨h1, h2⟩ => ⟨⟨_, _, h1⟩, h2⟩
 generalize (szT v : Int) = zv at *
 go_upto_region 15 with (go_at_call 10; refine CM.out.mono ?_; rintro e w9 ⟨⟨ml, mh, rfl⟩, bb⟩; have S9 : Hid (Below w.heap.size w w9 /\ C.RowAt w9 ya xs) := ⟨S8.out.1.trans (bb.mono S8.out.1.size), C.RowAt.later S8.out.2.2.2 bb⟩; clear bb S8 CM x0 x1 x2 x3)
 have CS2 : Hid (Calls Tryz.prog 11 #[.slice ya xl yc, .slice bo xl cb] w9 fun e w' => e = .returned (.bool true) /\ Below w9.heap.size w9 w') := (C.same_true ya bo xl xl yc cb xs w9 HXL.out HXL.out HL.out.1 S9.out.2 (HR.out _ S9.out.1)).mono fun e w' ⟨h1, h2⟩ => ⟨h1, h2 _⟩
 go_wp2_with (go_at_call 11; refine CS2.out.mono ?_; rintro e w10 ⟨rfl, bb⟩; have S10 : Hid (Below w.heap.size w w10) := S9.out.1.trans (bb.mono S9.out.1.size); clear bb S9 CS2)
 refine bodyPost_ret (v := .bool true) (by simp [results, Tryz.results3, go_sem]) rfl ?_
 exact ⟨rfl, S10.out⟩
set_option linter.unusedSimpArgs false in
set_option maxRecDepth 100000 in
set_option maxHeartbeats 8000000 in
theorem bytes_yn {bo : Option Addr} {cb : Nat} (ht : TAt w t) (hw : wtT t <= 100000000) (hr : C.RowAt w bo xs) (hl : xs.length <= 140737488355328) (hc : xs.length <= cb) (hm : C.Magic w) (he : (encU t).2 = 0) (hd : (decU xs).2.1 ≠ 0) : Calls Tryz.prog 3 #[t.val, .slice bo xs.length cb] w fun e w' => e = .returned (.bool true) /\ Below w.heap.size w w' := by
 have HM : Hid (∀ w', Below w.heap.size w w' -> C.Magic w') := fun w' hb => C.Magic.later hm hb hm.lt
 have HT : Hid (∀ w', Below w.heap.size w w' -> TAt w' t) := fun w' hb => ht.later hb
 have HR : Hid (∀ w', Below w.heap.size w w' -> C.RowAt w' bo xs) := fun w' hb => C.RowAt.later hr hb
 have HL : Hid (xs.length <= 140737488355328 /\ xs.length <= cb /\ wtT t <= 100000000 /\ C.isBytes xs) := ⟨hl, hc, hw, hr.1⟩
 have hli : (xs.length : Int) <= 140737488355328 := by omega
 have X0 : Hid (Below w.heap.size w (w.alloc (tBox t)) /\ (w.alloc (tBox t)).heap[w.heap.size]? = some (tBox t)) := ⟨below_alloc _ _, heap_alloc_new _ _⟩
 have HD : Hid ((decU xs).2.1 ≠ 0) := hd
 clear hd
 obtain ⟨-, -, q3, q4⟩ := enc_ok he
 have HD1 : Hid (decU (C.frame 3 (encT t)) = (some (cln t), 0, 0) /\ (C.frame 3 (encT t)).length <= 140737488355328 /\ samV (cln t) t) := ⟨q4, by have := frame_leT 3 (encT t); omega, cln_cd t (enc_ok he).2.1⟩
 have CE1 : Hid (∀ w', Below w.heap.size w w' -> Calls Tryz.prog 7 #[t.val] w' fun e w'' => ∃ a c, e = .returned (.tuple #[.slice a (C.frame 3 (encT t)).length c, .int .i64 0]) /\ C.RowAt w'' a (C.frame 3 (encT t)) /\ (C.frame 3 (encT t)).length <= c /\ Below w'.heap.size w' w'') := fun w' hb => encOk_W he (HT.out w' hb) hw (HM.out w' hb)
 clear he q3 q4
 clear ht hw hr hl hc hm
 go_enter Tryz.func3, Tryz.ntmps3
 go_upto_region 3 with (go_at_call 6; refine (works_W _).mono ?_; rintro e w1 ⟨rfl, bb⟩; have S1 : Hid (Below w.heap.size w w1 /\ w1.heap[w.heap.size]? = some (tBox t)) := ⟨X0.out.1.trans (bb.mono X0.out.1.size), (bb.block _ (lt_of_block X0.out.2)).trans X0.out.2⟩; clear bb X0; obtain ⟨x0, x1, x2, x3⟩ := tb_cells S1.out.2)
 go_upto_region 4 with (go_at_call 7; refine (CE1.out _ S1.out.1).mono ?_; rintro e w2 ⟨xa, xc, rfl, r2, c2, bb⟩; have S2 : Hid (Below w.heap.size w w2 /\ w2.heap[w.heap.size]? = some (tBox t)) := ⟨S1.out.1.trans (bb.mono S1.out.1.size), (bb.block _ (lt_of_block S1.out.2)).trans S1.out.2⟩; have R2 : Hid (C.RowAt w2 xa (C.frame 3 (encT t)) /\ (C.frame 3 (encT t)).length <= xc) := ⟨r2, c2⟩; clear bb r2 c2 S1 x0 x1 x2 x3)
 have CD1 : Hid (Calls Tryz.prog 8 #[.slice xa (C.frame 3 (encT t)).length xc] w2 fun e w'' => ∃ u', e = .returned (.tuple #[u'.val, .int .i64 0, .int .i64 0]) /\ samV u' (cln t) /\ TAt w'' u' /\ Below w2.heap.size w2 w'') := decOk_W HD1.out.1 HD1.out.2.1 R2.out.1 R2.out.2 (HM.out _ S2.out.1)
 clear R2 CE1
 generalize (C.frame 3 (encT t)).length = fl at *
 go_upto_region 6 with (go_at_call 8; refine CD1.out.mono ?_; rintro e w3 ⟨u, rfl, s3, t3, bb⟩; have S3 : Hid (Below w.heap.size w w3 /\ w3.heap[w.heap.size]? = some (tBox t) /\ TAt w3 u /\ samV u t) := ⟨S2.out.1.trans (bb.mono S2.out.1.size), (bb.block _ (lt_of_block S2.out.2)).trans S2.out.2, t3, samV_trans _ _ _ s3 HD1.out.2.2⟩; clear bb s3 t3 S2 CD1)
 refine wp_world (fun w' => ∃ b, b = w3.heap.size /\ TyS w t u b w') ⟨_, rfl, S3.out.1.trans ((below_alloc _ _).mono S3.out.1.size), ((below_alloc _ _).block _ (lt_of_block S3.out.2.1)).trans S3.out.2.1, heap_alloc_new _ _, S3.out.2.2.1.later (below_alloc _ _)⟩ fun w4 h4 => ?_
 obtain ⟨b4, hb4, h4⟩ := h4
 rw [<- hb4]
 have S4 : Hid (TyS w t u b4 w4 /\ samV u t /\ szT u <= 100000000) := ⟨h4, S3.out.2.2.2, by rw [samV_size _ _ S3.out.2.2.2]; have := sz_wt t; have := HL.out.2.2.1; omega⟩
 clear h4 hb4 S3 HD1
 obtain ⟨x0, x1, x2, x3⟩ := tb_cells S4.out.1.tb
 obtain ⟨y0, y1, y2, y3⟩ := tb_cells S4.out.1.ub
 go_upto_region 10 with (go_at_call 9; refine (sameTree_W u t _ S4.out.1.ua (HT.out _ S4.out.1.bel) S4.out.2.1 S4.out.2.2).mono ?_; rintro e w5 ⟨rfl, bb⟩; have S5 : Hid (Below w.heap.size w w5) := S4.out.1.bel.trans (bb.mono S4.out.1.bel.size); clear bb S4 x0 x1 x2 x3 y0 y1 y2 y3)
 obtain ⟨e1, at_, d1, d2, d3, d4⟩ := dec_no HL.out.2.2.2 HD.out
 have CD2 : Hid (Calls Tryz.prog 8 #[.slice bo xs.length cb] w5 fun e w'' => e = .returned (.tuple #[TV.none.val, .int .i64 e1, .int .i64 at_]) /\ Below w5.heap.size w5 w'') := decNo_W d1 HL.out.1 (HR.out _ S5.out) HL.out.2.1 (HM.out _ S5.out)
 have g1 : (e1 != 0) = true := by simpa using d2
 clear d1 d2 HD
 go_upto_region 11 with (go_at_call 8; refine CD2.out.mono ?_; rintro e w6 ⟨rfl, bb⟩; have S6 : Hid (Below w.heap.size w w6) := S5.out.trans (bb.mono S5.out.size); clear bb S5 CD2)
 refine wp_world (fun w' => ∃ b, b = w6.heap.size /\ Below w.heap.size w w' /\ w'.heap[b]? = some (tBox TV.none)) ⟨_, rfl, S6.out.trans ((below_alloc _ _).mono S6.out.size), heap_alloc_new _ _⟩ fun w7 h7 => ?_
 obtain ⟨b7, hb7, h7⟩ := h7
 rw [<- hb7]
 have S7 : Hid (Below w.heap.size w w7 /\ w7.heap[b7]? = some (tBox TV.none)) := h7
 clear h7 hb7 S6
 obtain ⟨x0, x1, x2, x3⟩ := tb_cells S7.out.2
 have CS2 : Hid (Calls Tryz.prog 9 #[TV.none.val, TV.none.val] w7 fun e w' => e = .returned (.bool true) /\ Below w7.heap.size w7 w') := sameTree_W TV.none TV.none w7 (ta_none _) (ta_none _) (samV_refl _) (by decide)
 go_wp2_with (go_at_call 9; refine CS2.out.mono ?_; rintro e w10 ⟨rfl, bb⟩; have S10 : Hid (Below w.heap.size w w10) := S7.out.1.trans (bb.mono S7.out.1.size); clear bb S7 CS2 x0 x1 x2 x3)
 refine bodyPost_ret (v := .bool true) (by simp [results, Tryz.results3, go_sem]) rfl ?_
 exact ⟨rfl, S10.out⟩
set_option linter.unusedSimpArgs false in
set_option maxRecDepth 100000 in
set_option maxHeartbeats 8000000 in
theorem bytes_ny {bo : Option Addr} {cb : Nat} (ht : TAt w t) (hw : wtT t <= 100000000) (hr : C.RowAt w bo xs) (hl : xs.length <= 140737488355328) (hc : xs.length <= cb) (hm : C.Magic w) (he : (encU t).2 ≠ 0) (hd : (decU xs).2.1 = 0) : Calls Tryz.prog 3 #[t.val, .slice bo xs.length cb] w fun e w' => e = .returned (.bool true) /\ Below w.heap.size w w' := by
 have HM : Hid (∀ w', Below w.heap.size w w' -> C.Magic w') := fun w' hb => C.Magic.later hm hb hm.lt
 have HT : Hid (∀ w', Below w.heap.size w w' -> TAt w' t) := fun w' hb => ht.later hb
 have HR : Hid (∀ w', Below w.heap.size w w' -> C.RowAt w' bo xs) := fun w' hb => C.RowAt.later hr hb
 have HL : Hid (xs.length <= 140737488355328 /\ xs.length <= cb /\ wtT t <= 100000000 /\ C.isBytes xs) := ⟨hl, hc, hw, hr.1⟩
 have hli : (xs.length : Int) <= 140737488355328 := by omega
 have X0 : Hid (Below w.heap.size w (w.alloc (tBox t)) /\ (w.alloc (tBox t)).heap[w.heap.size]? = some (tBox t)) := ⟨below_alloc _ _, heap_alloc_new _ _⟩
 have HD : Hid ((decU xs).2.1 = 0) := hd
 clear hd
 have CE1 : Hid (∀ w', Below w.heap.size w w' -> Calls Tryz.prog 7 #[t.val] w' fun e w'' => ∃ a c, e = .returned (.tuple #[.slice a 0 c, .int .i64 (encU t).2]) /\ Below w'.heap.size w' w'') := fun w' hb => encNo_W he (HT.out w' hb) hw (HM.out w' hb)
 have g0 : ((encU t).2 == 0) = false := by simpa using he
 clear he
 clear ht hw hr hl hc hm
 go_enter Tryz.func3, Tryz.ntmps3
 go_upto_region 3 with (go_at_call 6; refine (works_W _).mono ?_; rintro e w1 ⟨rfl, bb⟩; have S1 : Hid (Below w.heap.size w w1 /\ w1.heap[w.heap.size]? = some (tBox t)) := ⟨X0.out.1.trans (bb.mono X0.out.1.size), (bb.block _ (lt_of_block X0.out.2)).trans X0.out.2⟩; clear bb X0; obtain ⟨x0, x1, x2, x3⟩ := tb_cells S1.out.2)
 generalize (encU t).2 = eu at *
 go_upto_region 10 with (go_at_call 7; refine (CE1.out _ S1.out.1).mono ?_; rintro e w5 ⟨xa, xc, rfl, bb⟩; have S5 : Hid (Below w.heap.size w w5) := S1.out.1.trans (bb.mono S1.out.1.size); clear bb S1 x0 x1 x2 x3 CE1)
 obtain ⟨u2, d1, d2, d3, d4, d5, d6, d7⟩ := dec_ok HL.out.2.2.2 HD.out
 have CD2 : Hid (Calls Tryz.prog 8 #[.slice bo xs.length cb] w5 fun e w'' => ∃ u', e = .returned (.tuple #[u'.val, .int .i64 0, .int .i64 0]) /\ samV u' u2 /\ TAt w'' u' /\ Below w5.heap.size w5 w'') := decOk_W d1 HL.out.1 (HR.out _ S5.out) HL.out.2.1 (HM.out _ S5.out)
 have HU2 : Hid (CdT u2 /\ C.frame 3 (encT u2) = xs /\ encU u2 = (xs, 0) /\ szT u2 <= xs.length /\ wtT u2 <= 100000000) := ⟨d2, d3, d5, d6, d7⟩
 have HEL : Hid ((encT u2).length <= 16777216) := d4
 clear d1 d2 d3 d4 d5 d6 d7 HD
 obtain ⟨xl, hxl⟩ : ∃ xl, xl = xs.length := ⟨_, rfl⟩
 have HXL : Hid (xl = xs.length) := hxl
 rw [<- hxl] at CD2 hli ⊢
 clear hxl
 go_upto_region 11 with (go_at_call 8; refine CD2.out.mono ?_; rintro e w6 ⟨v, rfl, s6, t6, bb⟩; have S6 : Hid (Below w.heap.size w w6 /\ TAt w6 v /\ samV v u2) := ⟨S5.out.trans (bb.mono S5.out.size), t6, s6⟩; clear bb s6 t6 S5 CD2)
 refine wp_world (fun w' => ∃ b, b = w6.heap.size /\ Below w.heap.size w w' /\ w'.heap[b]? = some (tBox v) /\ TAt w' v) ⟨_, rfl, S6.out.1.trans ((below_alloc _ _).mono S6.out.1.size), heap_alloc_new _ _, S6.out.2.1.later (below_alloc _ _)⟩ fun w7 h7 => ?_
 obtain ⟨b7, hb7, h7⟩ := h7
 rw [<- hb7]
 have S7 : Hid (Below w.heap.size w w7 /\ w7.heap[b7]? = some (tBox v) /\ TAt w7 v) := h7
 have HV : Hid (wtT v <= 100000000 /\ szT v <= 100000000 /\ szT v <= xl /\ (encU v).2 = 0 /\ C.frame 3 (encT v) = xs) := by
  obtain ⟨a1, a2, a3, a4, a5⟩ := HU2.out
  have s := S6.out.2.2
  have e1 := encT_sam v u2 s
  have e2 := wt_sam v u2 s
  have e3 := samV_size v u2 s
  have e4 := sz_wt v
  refine ⟨by omega, by omega, by rw [e3, HXL.out]; exact a4, ?_, by rw [e1]; exact a2⟩
  rw [enc_of (cd_sam u2 v (samV_symm v u2 s) a1) (by rw [e1]; exact HEL.out)]
 have hvl : (szT v : Int) <= (xl : Int) := by have := HV.out.2.2.1; omega
 clear h7 hb7 S6 HU2
 obtain ⟨x0, x1, x2, x3⟩ := tb_cells S7.out.2.1
 have CE2 : Hid (Calls Tryz.prog 7 #[v.val] w7 fun e w'' => ∃ a c, e = .returned (.tuple #[.slice a xl c, .int .i64 0]) /\ C.RowAt w'' a xs /\ xs.length <= c /\ Below w7.heap.size w7 w'') := (encOk_W HV.out.2.2.2.1 S7.out.2.2 HV.out.1 (HM.out _ S7.out.1)).mono fun e w'' ⟨a, c, h1, h2, h3, h4⟩ => by
  rw [HV.out.2.2.2.2, <- HXL.out] at h1
  rw [HV.out.2.2.2.2] at h2 h3
  exact ⟨a, c, h1, h2, h3, h4⟩
 go_upto_region 14 with (go_at_call 7; refine CE2.out.mono ?_; rintro e w8 ⟨ya, yc, rfl, r8, c8, bb⟩; have S8 : Hid (Below w.heap.size w w8 /\ w8.heap[b7]? = some (tBox v) /\ TAt w8 v /\ C.RowAt w8 ya xs) := ⟨S7.out.1.trans (bb.mono S7.out.1.size), (bb.block _ (lt_of_block S7.out.2.1)).trans S7.out.2.1, S7.out.2.2.later bb, r8⟩; clear bb r8 c8 S7 CE2 x0 x1 x2 x3; obtain ⟨x0, x1, x2, x3⟩ := tb_cells S8.out.2.1)
 have CM : Hid (Calls Tryz.prog 10 #[v.val] w8 fun e w' => (∃ l h, e = .returned (.tuple #[.int .i64 (szT v : Int), l, h])) /\ Below w8.heap.size w8 w') := (measure_W v w8 S8.out.2.2.1 HV.out.2.1).mono fun e w' ⟨h1, h2⟩ => ⟨⟨_, _, h1⟩, h2⟩
 generalize (szT v : Int) = zv at *
 go_upto_region 15 with (go_at_call 10; refine CM.out.mono ?_; rintro e w9 ⟨⟨ml, mh, rfl⟩, bb⟩; have S9 : Hid (Below w.heap.size w w9 /\ C.RowAt w9 ya xs) := ⟨S8.out.1.trans (bb.mono S8.out.1.size), C.RowAt.later S8.out.2.2.2 bb⟩; clear bb S8 CM x0 x1 x2 x3)
 have CS2 : Hid (Calls Tryz.prog 11 #[.slice ya xl yc, .slice bo xl cb] w9 fun e w' => e = .returned (.bool true) /\ Below w9.heap.size w9 w') := (C.same_true ya bo xl xl yc cb xs w9 HXL.out HXL.out HL.out.1 S9.out.2 (HR.out _ S9.out.1)).mono fun e w' ⟨h1, h2⟩ => ⟨h1, h2 _⟩
 go_wp2_with (go_at_call 11; refine CS2.out.mono ?_; rintro e w10 ⟨rfl, bb⟩; have S10 : Hid (Below w.heap.size w w10) := S9.out.1.trans (bb.mono S9.out.1.size); clear bb S9 CS2)
 refine bodyPost_ret (v := .bool true) (by simp [results, Tryz.results3, go_sem]) rfl ?_
 exact ⟨rfl, S10.out⟩
set_option linter.unusedSimpArgs false in
set_option maxRecDepth 100000 in
set_option maxHeartbeats 8000000 in
theorem bytes_nn {bo : Option Addr} {cb : Nat} (ht : TAt w t) (hw : wtT t <= 100000000) (hr : C.RowAt w bo xs) (hl : xs.length <= 140737488355328) (hc : xs.length <= cb) (hm : C.Magic w) (he : (encU t).2 ≠ 0) (hd : (decU xs).2.1 ≠ 0) : Calls Tryz.prog 3 #[t.val, .slice bo xs.length cb] w fun e w' => e = .returned (.bool true) /\ Below w.heap.size w w' := by
 have HM : Hid (∀ w', Below w.heap.size w w' -> C.Magic w') := fun w' hb => C.Magic.later hm hb hm.lt
 have HT : Hid (∀ w', Below w.heap.size w w' -> TAt w' t) := fun w' hb => ht.later hb
 have HR : Hid (∀ w', Below w.heap.size w w' -> C.RowAt w' bo xs) := fun w' hb => C.RowAt.later hr hb
 have HL : Hid (xs.length <= 140737488355328 /\ xs.length <= cb /\ wtT t <= 100000000 /\ C.isBytes xs) := ⟨hl, hc, hw, hr.1⟩
 have hli : (xs.length : Int) <= 140737488355328 := by omega
 have X0 : Hid (Below w.heap.size w (w.alloc (tBox t)) /\ (w.alloc (tBox t)).heap[w.heap.size]? = some (tBox t)) := ⟨below_alloc _ _, heap_alloc_new _ _⟩
 have HD : Hid ((decU xs).2.1 ≠ 0) := hd
 clear hd
 have CE1 : Hid (∀ w', Below w.heap.size w w' -> Calls Tryz.prog 7 #[t.val] w' fun e w'' => ∃ a c, e = .returned (.tuple #[.slice a 0 c, .int .i64 (encU t).2]) /\ Below w'.heap.size w' w'') := fun w' hb => encNo_W he (HT.out w' hb) hw (HM.out w' hb)
 have g0 : ((encU t).2 == 0) = false := by simpa using he
 clear he
 clear ht hw hr hl hc hm
 go_enter Tryz.func3, Tryz.ntmps3
 go_upto_region 3 with (go_at_call 6; refine (works_W _).mono ?_; rintro e w1 ⟨rfl, bb⟩; have S1 : Hid (Below w.heap.size w w1 /\ w1.heap[w.heap.size]? = some (tBox t)) := ⟨X0.out.1.trans (bb.mono X0.out.1.size), (bb.block _ (lt_of_block X0.out.2)).trans X0.out.2⟩; clear bb X0; obtain ⟨x0, x1, x2, x3⟩ := tb_cells S1.out.2)
 generalize (encU t).2 = eu at *
 go_upto_region 10 with (go_at_call 7; refine (CE1.out _ S1.out.1).mono ?_; rintro e w5 ⟨xa, xc, rfl, bb⟩; have S5 : Hid (Below w.heap.size w w5) := S1.out.1.trans (bb.mono S1.out.1.size); clear bb S1 x0 x1 x2 x3 CE1)
 obtain ⟨e1, at_, d1, d2, d3, d4⟩ := dec_no HL.out.2.2.2 HD.out
 have CD2 : Hid (Calls Tryz.prog 8 #[.slice bo xs.length cb] w5 fun e w'' => e = .returned (.tuple #[TV.none.val, .int .i64 e1, .int .i64 at_]) /\ Below w5.heap.size w5 w'') := decNo_W d1 HL.out.1 (HR.out _ S5.out) HL.out.2.1 (HM.out _ S5.out)
 have g1 : (e1 != 0) = true := by simpa using d2
 clear d1 d2 HD
 go_upto_region 11 with (go_at_call 8; refine CD2.out.mono ?_; rintro e w6 ⟨rfl, bb⟩; have S6 : Hid (Below w.heap.size w w6) := S5.out.trans (bb.mono S5.out.size); clear bb S5 CD2)
 refine wp_world (fun w' => ∃ b, b = w6.heap.size /\ Below w.heap.size w w' /\ w'.heap[b]? = some (tBox TV.none)) ⟨_, rfl, S6.out.trans ((below_alloc _ _).mono S6.out.size), heap_alloc_new _ _⟩ fun w7 h7 => ?_
 obtain ⟨b7, hb7, h7⟩ := h7
 rw [<- hb7]
 have S7 : Hid (Below w.heap.size w w7 /\ w7.heap[b7]? = some (tBox TV.none)) := h7
 clear h7 hb7 S6
 obtain ⟨x0, x1, x2, x3⟩ := tb_cells S7.out.2
 have CS2 : Hid (Calls Tryz.prog 9 #[TV.none.val, TV.none.val] w7 fun e w' => e = .returned (.bool true) /\ Below w7.heap.size w7 w') := sameTree_W TV.none TV.none w7 (ta_none _) (ta_none _) (samV_refl _) (by decide)
 go_wp2_with (go_at_call 9; refine CS2.out.mono ?_; rintro e w10 ⟨rfl, bb⟩; have S10 : Hid (Below w.heap.size w w10) := S7.out.1.trans (bb.mono S7.out.1.size); clear bb S7 CS2 x0 x1 x2 x3)
 refine bodyPost_ret (v := .bool true) (by simp [results, Tryz.results3, go_sem]) rfl ?_
 exact ⟨rfl, S10.out⟩
theorem bytes_walk {bo : Option Addr} {cb : Nat} (ht : TAt w t) (hw : wtT t <= 100000000) (hr : C.RowAt w bo xs) (hl : xs.length <= 140737488355328) (hc : xs.length <= cb) (hm : C.Magic w) : Calls Tryz.prog 3 #[t.val, .slice bo xs.length cb] w fun e w' => e = .returned (.bool true) /\ Below w.heap.size w w' := by
 by_cases he : (encU t).2 = 0 <;> by_cases hd : (decU xs).2.1 = 0
 ·exact bytes_yy ht hw hr hl hc hm he hd
 ·exact bytes_yn ht hw hr hl hc hm he hd
 ·exact bytes_ny ht hw hr hl hc hm he hd
 ·exact bytes_nn ht hw hr hl hc hm he hd
end
end Go.Proofs.YtfgfkchhkbkplaaGreatDoor
