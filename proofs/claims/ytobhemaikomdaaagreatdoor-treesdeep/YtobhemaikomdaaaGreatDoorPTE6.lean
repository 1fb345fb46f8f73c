import Derived.Test.YtobhemaikomdaaaGreatDoorPTE4ToTE5
import Derived.Test.YtobhemaikomdaaaGreatDoorPTB13ToTB28
import Derived.Test.YtobhemaikomdaaaGreatDoorPRMoreToGE10
namespace Go.Proofs.YtobhemaikomdaaaGreatDoor
set_option linter.unusedVariables false
open Go.RowKit
theorem dcL_whole {zs : List Int} {A : AB} {p : Nat} {e : Int} (hw : wholeU A = true) : ∀ n, dcL zs n A p e = (A, p, e)
 | 0 => rfl
 | n + 1 => by rw [dcL, if_pos (.inl hw)]
theorem dcL_err {zs : List Int} {A : AB} {p : Nat} {e : Int} (h0 : e ≠ 0) (h1 : e ≠ 12) : ∀ n, dcL zs n A p e = (A, p, e)
 | 0 => rfl
 | n + 1 => by
  rw [dcL, if_pos]
  right
  unfold C.endS
  rw [if_pos h0]
  exact ⟨h0, h1⟩
theorem fail0 (zs : List Int) (p : Nat) : failB zs p 0 = false := by
 unfold failB C.endS
 rw [if_neg (by simp)]
 split <;> simp
theorem fail1 (zs : List Int) (p : Nat) {e : Int} (h0 : e ≠ 0) (h1 : e ≠ 12) : failB zs p e = true := by
 unfold failB C.endS
 rw [if_pos h0]
 simp [h0, h1]
abbrev bdBox : Obj := .cells #[.slice none 0 0, .slice none 0 0] 83
theorem dci_start {wi : World} {r : Nat} {ao : Option Addr} {n c : Nat} {zs : List Int} (h : C.RInv wi r ao n c zs 0 0) (hg : ∀ g, ao = some ⟨g, 0, none⟩ -> g < wi.heap.size) : DcI wi r wi.heap.size ao n c zs ([], []) 0 0 (wi.alloc bdBox) := by
 have hb := heap_alloc_new wi bdBox
 have hB := below_alloc wi bdBox
 refine ⟨h.later hB, h.lt, hg, ?_, C.ROnly.ofBelow hB⟩
 refine ⟨.slice none 0 0, .slice none 0 0, ([], []), ⟨⟨rfl, fun i hi => absurd hi (by simp)⟩, trivial⟩, ?_⟩
 refine ⟨Below.refl _ _, Nat.le_of_lt (lt_of_block hb), ⟨_, _, hb, by decide, by decide, rfl, rfl⟩, Nat.le_refl _, fun o h1 h2 => ?_, fun j o hj => (by cases hj), RO.nil _, RO.nil _, (fun j e => by cases e), (fun j e => by cases e), (fun t ht => by cases ht), (fun a ha => by cases ha), fun a => by simp [dlA, ksL, inR]⟩
 rw [cellq_any hb]
 rcases o with _ | _ | o
 ·exact absurd rfl h1
 ·exact absurd rfl h2
 ·rfl
def dcE (N : Nat) (xs : List Int) (e : Ending) (w' : World) : Prop := match decU xs with
 | (none, e1, at_) => e = .returned (.tuple #[TV.none.val, .int .i64 e1, .int .i64 at_])
 | (some t, _, _) => ∃ t', samV t' t /\ OwT N w' t' /\ e = .returned (.tuple #[t'.val, .int .i64 0, .int .i64 0])
section
variable {w : World} {ao : Option Addr} {N cap : Nat} {xs : List Int}
theorem open_T (hN : N = xs.length) (hl : xs.length <= 140737488355328) (hcap : xs.length <= cap) (hr : C.RowAt w ao xs) (hm : C.Magic w) {zs : List Int} {oe oa : Int} (hF : C.openS 3 xs = (zs, oe, oa)) : ∀ w0 : World, Below w.heap.size w w0 -> Calls Tryz.prog 35 #[.int .u8 3, .slice ao N cap] w0 fun e w' => ∃ a c, e = .returned (.tuple #[.slice a zs.length c, .int .i64 oe, .int .i64 oa]) /\ C.RowAt w' a zs /\ (a = none -> c = 0) /\ Below w0.heap.size w0 w' := fun w0 hb => (C.open_any 3 ao N cap _ w0 hN (by omega) (by omega) hl hcap (C.Magic.later hm hb hm.lt) (C.RowAt.later hr hb)).mono fun e w' he => by
  obtain ⟨v, rfl, ho, _, hb'⟩ := he
  rw [hF] at ho ⊢
  obtain ⟨a, c, rfl, hn, hr2⟩ := C.Own.row ho
  exact ⟨a, c, rfl, hr2, fun h => (hn h).2, hb'⟩
def zBox (w : World) (b : Nat) : Prop := w.heap[b]? = some zTrB
theorem zbx_cells {w : World} {b : Nat} (h : zBox w b) : (w.cell? ⟨b, 0, none⟩ = some (.int .i64 0) /\ w.cell? ⟨b, 1, none⟩ = some (.int .i64 0) /\ w.cell? ⟨b, 2, none⟩ = some (.string ⟨#[]⟩) /\ w.cell? ⟨b, 3, none⟩ = some (.slice none 0 0)) /\ w.frozen? ⟨b, 0, none⟩ = false /\ w.frozen? ⟨b, 1, none⟩ = false /\ w.frozen? ⟨b, 2, none⟩ = false /\ w.frozen? ⟨b, 3, none⟩ = false := by
 unfold zBox at h
 exact ⟨⟨(cellq_any h).trans rfl, (cellq_any h).trans rfl, (cellq_any h).trans rfl, (cellq_any h).trans rfl⟩, by simp [World.frozen?, h], by simp [World.frozen?, h], by simp [World.frozen?, h], by simp [World.frozen?, h]⟩
set_option linter.unusedSimpArgs false in
set_option maxRecDepth 100000 in
set_option maxHeartbeats 4000000 in
theorem dec_none (hN : N = xs.length) (hl : xs.length <= 140737488355328) (hcap : xs.length <= cap) (hr : C.RowAt w ao xs) (hm : C.Magic w) (zs : List Int) (oe oa : Int) (hF : C.openS 3 xs = (zs, oe, oa)) (h0 : oe ≠ 0) : Calls Tryz.prog 12 #[.slice ao N cap] w fun e w' => Below w.heap.size w w' /\ dcE w.heap.size xs e w' := by
 have HOP : Hid (∀ w0 : World, Below w.heap.size w w0 -> Calls Tryz.prog 35 #[.int .u8 3, .slice ao N cap] w0 fun e w' => ∃ a c, e = .returned (.tuple #[.slice a zs.length c, .int .i64 oe, .int .i64 oa]) /\ C.RowAt w' a zs /\ (a = none -> c = 0) /\ Below w0.heap.size w0 w') := open_T hN hl hcap hr hm hF
 have HU : Hid (decU xs = (none, oe, oa)) := by show _ = _; unfold decU; rw [hF]; dsimp only; rw [if_pos h0]
 have t0 : (oe != 0) = true := by simpa using h0
 clear hN hl hcap hr hm hF h0
 go_enter Tryz.func12, Tryz.ntmps12
 go_upto_region 3 with (go_at_call 35; refine (HOP.out _ (below_alloc _ _)).mono ?_; rintro e w1 ⟨ba, bc, rfl, -, -, hb1⟩; have B1 : Hid (Below w.heap.size w w1 /\ zBox w1 w.heap.size) := ⟨(below_alloc w zTrB).trans (hb1.mono (below_alloc w zTrB).size), (hb1.block _ (lt_of_block (heap_alloc_new w zTrB))).trans (heap_alloc_new w zTrB)⟩; clear hb1)
 refine wp_world (fun w' => Below w.heap.size w w' /\ zBox w' w.heap.size) B1.out fun w4 h4 => ?_
 have H4 : Hid (Below w.heap.size w w4 /\ zBox w4 w.heap.size) := h4
 clear h4 B1 HOP
 have H5 : Hid (Below w.heap.size w (w4.setCells w.heap.size 0 [.int .i64 0, .int .i64 0, .string ⟨#[]⟩, .slice none 0 0]) /\ zBox (w4.setCells w.heap.size 0 [.int .i64 0, .int .i64 0, .string ⟨#[]⟩, .slice none 0 0]) w.heap.size) := ⟨setCs_bel (Nat.le_refl _) _ _ _ H4.out.1, setCs_fourB H4.out.2⟩
 obtain ⟨⟨z0, z1, z2, z3⟩, f00, f01, f02, f03⟩ := zbx_cells H4.out.2
 clear H4
 go_wp2
 change bodyPost _ _ _ _ _ (w4.setCells w.heap.size 0 [.int .i64 0, .int .i64 0, .string ⟨#[]⟩, .slice none 0 0])
 generalize w4.setCells w.heap.size 0 [.int .i64 0, .int .i64 0, .string ⟨#[]⟩, .slice none 0 0] = w5 at *
 obtain ⟨⟨x0, x1, x2, x3⟩, -⟩ := zbx_cells H5.out.2
 refine bodyPost_ret (v := .tuple #[.agg #[.int .i64 0, .int .i64 0, .string ⟨#[]⟩, .slice none 0 0], .int .i64 oe, .int .i64 oa]) (by simp [results, Tryz.results12, go_sem, x0, x1, x2, x3]) rfl ?_
 refine ⟨H5.out.1, ?_⟩
 unfold dcE
 rw [HU.out]
 rfl
set_option linter.unusedSimpArgs false in
set_option maxRecDepth 100000 in
set_option maxHeartbeats 8000000 in
theorem dec_some (hN : N = xs.length) (hl : xs.length <= 140737488355328) (hcap : xs.length <= cap) (hr : C.RowAt w ao xs) (hm : C.Magic w) (zs : List Int) (oa : Int) (hF : C.openS 3 xs = (zs, 0, oa)) : Calls Tryz.prog 12 #[.slice ao N cap] w fun e w' => Below w.heap.size w w' /\ dcE w.heap.size xs e w' := by
 have HOP : Hid (∀ w0 : World, Below w.heap.size w w0 -> Calls Tryz.prog 35 #[.int .u8 3, .slice ao N cap] w0 fun e w' => ∃ a c, e = .returned (.tuple #[.slice a zs.length c, .int .i64 0, .int .i64 oa]) /\ C.RowAt w' a zs /\ (a = none -> c = 0) /\ Below w0.heap.size w0 w') := open_T hN hl hcap hr hm hF
 obtain ⟨_, hzl, hbz, _⟩ := C.frame_open 3 xs hr.1 zs oa hF
 have HZ : Hid (zs.length <= 16777216 /\ C.isBytes zs) := ⟨hzl, hbz⟩
 have HNN : Hid (N = xs.length /\ N <= 140737488355328) := ⟨hN, by omega⟩
 have HUN : Hid (∀ A p e ee ea, dcL zs (zs.length + 2) ([], []) 0 0 = (A, p, e) -> C.endS zs p e = (ee, ea) -> ee ≠ 0 -> decU xs = (none, ee, (N : Int) - 4 - (zs.length : Int) + ea)) := fun A p e ee ea h1 h2 h3 => by
  unfold decU
  rw [hF]
  dsimp only
  rw [if_neg (by simp), h1]
  dsimp only
  rw [h2, if_pos h3, hN]
 have HUS : Hid (∀ A p e ea, dcL zs (zs.length + 2) ([], []) 0 0 = (A, p, e) -> C.endS zs p e = (0, ea) -> ∃ t, A = ([t], []) /\ decU xs = (some t, 0, 0)) := fun A p e ea h1 h2 => by
  obtain ⟨t, ht, -, -⟩ := dec_back hbz (by rw [h1]; dsimp only; rw [h2])
  rw [ht] at h1
  simp only [Prod.mk.injEq] at h1
  obtain ⟨rfl, rfl, rfl⟩ := h1
  refine ⟨t, rfl, ?_⟩
  unfold decU
  rw [hF]
  dsimp only
  rw [if_neg (by simp), ht]
  dsimp only
  rw [h2, if_neg (by simp)]
  rfl
 have e1 : decide ((0 : Int) = 0) = true := by decide
 have hNi : (N : Int) <= 140737488355328 := by omega
 have hzi : (zs.length : Int) <= 16777216 := by omega
 clear hN hl hcap hr hm hF hzl hbz e1 HNN
 go_enter Tryz.func12, Tryz.ntmps12
 go_wp2_with (first
  | (go_at_call 35; refine (HOP.out _ (below_alloc _ _)).mono ?_; rintro e w1 ⟨ba, bc, rfl, hr1, hc1, hb1⟩; have B1 : Hid (Below w.heap.size w w1 /\ zBox w1 w.heap.size /\ C.RowAt w1 ba zs /\ (ba = none -> bc = 0)) := ⟨(below_alloc w zTrB).trans (hb1.mono (below_alloc w zTrB).size), (hb1.block _ (lt_of_block (heap_alloc_new w zTrB))).trans (heap_alloc_new w zTrB), hr1, hc1⟩; clear hb1 hr1 hc1)
  | (go_at_call 36; refine (newreader_own ba _ bc zs w1 rfl (Nat.le_trans HZ.out.1 (by omega)) B1.out.2.2.1 B1.out.2.2.2).mono ?_; rintro e w2 ⟨r, ro, rN, rc, rfl, hR', hr', hg', hb'⟩; have R2 : Hid (C.RInv w2 r ro rN rc zs 0 0 /\ w1.heap.size <= r /\ (∀ g, ro = some ⟨g, 0, none⟩ -> g < w2.heap.size) /\ Below w.heap.size w w2 /\ zBox w2 w.heap.size) := ⟨hR', hr', fun g hg => (hg' g hg).2, B1.out.1.trans (hb'.mono B1.out.1.size), (hb'.block _ (lt_of_block B1.out.2.1)).trans B1.out.2.1⟩; clear hR' hr' hg' hb'))
 have HBK : Hid (∀ w', C.ROnly w2 w' r -> Below w.heap.size w w' /\ zBox w' w.heap.size) := fun w' ho => by
  obtain ⟨a1, a2, -, a4, a5⟩ := R2.out
  have hz := lt_of_block B1.out.2.1
  have hz2 := lt_of_block a5
  exact ⟨a4.trans (ho.below (by omega) (by omega)), (ho.block _ hz2 (by omega)).trans a5⟩
 refine wp_world (fun w' => DcI w2 r w2.heap.size ro rN rc zs ([], []) 0 0 w') (dci_start R2.out.1 R2.out.2.2.1) fun w3 h3 => ?_
 have H3 : Hid (DcI w2 r w2.heap.size ro rN rc zs ([], []) 0 0 w3) := h3
 have HZL0 : Hid (w.heap.size < w2.heap.size) := lt_of_block R2.out.2.2.2.2
 clear h3 B1 HOP R2
 have HZL : Hid (w.heap.size < w2.heap.size) := HZL0.out
 obtain ⟨bb, hbb⟩ : ∃ bb, w2.heap.size = bb := ⟨_, rfl⟩
 rw [hbb] at H3
 rw [hbb]
 clear hbb HZL0
 go_loopg [] (zs.length + 3) (fun gk wr => ∃ n A p e, DcI w2 r bb ro rN rc zs A p e wr /\ dcL zs n A p e = dcL zs (zs.length + 2) ([], []) 0 0 /\ (e = 0 -> InE zs A p /\ zs.length + 1 < n + p) /\ (e ≠ 0 -> e ≠ 12 /\ p <= zs.length) /\ n < gk)
 case atStart => exact ⟨zs.length + 2, ([], []), 0, 0, H3.out, rfl, (fun _ => ⟨⟨⟨(fun f hf => by cases hf), (fun t ht => by cases ht), .inl rfl⟩, rfl, Nat.le_refl _, Nat.zero_le _⟩, by omega⟩), (fun h => absurd rfl h), by omega⟩
 case round =>
  clear H3
  obtain ⟨n, A, p, e, hD, hd, h0, hne, hgk⟩ := hrel
  have HD : Hid (DcI w2 r bb ro rN rc zs A p e wr) := hD
  have CW : Hid (Calls Tryz.prog 37 #[.pointer (some ⟨bb, 0, none⟩)] wr fun e w' => e = .returned (.bool (wholeU A)) /\ w' = wr) := whole_W hD.bd
  have CF : Hid (Calls Tryz.prog 38 #[.pointer (some ⟨r, 0, none⟩)] wr fun x w' => x = .returned (.bool (failB zs p e)) /\ Below wr.heap.size wr w') := failed_W hD.rd
  have HGN : Hid (n < gk) := hgk
  have HL : Hid (dcL zs n A p e = dcL zs (zs.length + 2) ([], []) 0 0) := hd
  clear hgk hd hD
  cases hw : wholeU A with
  | true =>
   rw [hw] at CW
   have HFN : Hid (dcL zs (zs.length + 2) ([], []) 0 0 = (A, p, e)) := by
    show _ = _
    rw [<- HL.out]
    exact dcL_whole hw n
   have HEP : Hid (p <= zs.length) := by
    show _ <= _
    by_cases q : e = 0
    ·exact (h0 q).1.pl
    ·exact (hne q).2
   clear HL h0 hne HGN CF hw
   obtain ⟨ee, ea, hE⟩ : ∃ ee ea, C.endS zs p e = (ee, ea) := ⟨_, _, rfl⟩
   obtain ⟨b1, b2, -⟩ := endS_bd HEP.out hE
   have CE : Hid (Calls Tryz.prog 40 #[.pointer (some ⟨r, 0, none⟩)] wr fun x w' => x = .returned (.tuple #[.int .i64 ee, .int .i64 ea]) /\ Below wr.heap.size wr w') := rend_B HD.out.rd ee ea hE
   by_cases hz : ee = 0
   ·subst hz
    obtain ⟨t, hA, hU⟩ := HUS.out A p e ea HFN.out hE
    have HU : Hid (decU xs = (some t, 0, 0)) := hU
    have HA : Hid (A = ([t], [])) := hA
    clear hE hU hA HUN HUS HFN HEP b1 b2
    go_upto_region 12 with (first | (go_at_call 37; refine CW.out.mono ?_; rintro x w4 ⟨rfl, q⟩; obtain rfl := q.symm) | (go_at_call 40; refine CE.out.mono ?_; rintro x w5 ⟨rfl, b5⟩; have D5 : Hid (DcI w2 r bb ro rN rc zs A p e w5) := HD.out.later b5; clear b5))
    have CT : Hid (Calls Tryz.prog 41 #[.pointer (some ⟨bb, 0, none⟩)] w5 fun e w' => ∃ t0 t', A.1.head? = some t' /\ samV t0 t' /\ e = .returned t0.val /\ OwT w2.heap.size w' t0 /\ BdS w5 w2.heap.size bb 0 (fun _ => none) (fun _ => none) A w') := tree_B D5.out.bd (by rw [HA.out]; simp) (by rw [HA.out])
    clear CW CE HD
    go_wp2_with (go_at_call 41; refine CT.out.mono ?_; rintro x w6 ⟨t0, t', hh, hs, rfl, hOw, hB6⟩; have D6 : Hid (DcI w2 r bb ro rN rc zs A p e w6 /\ OwT w2.heap.size w6 t0 /\ samV t0 t' /\ A.1.head? = some t') := ⟨D5.out.made hB6, hOw, hs, hh⟩; clear hh hs hOw hB6 CT; obtain ⟨⟨z0, z1, z2, z3⟩, f00, f01, f02, f03⟩ := zbx_cells (HBK.out _ D6.out.1.on).2)
    have H5 : Hid (Below w.heap.size w (set4 w6 w.heap.size 0 t0) /\ TBx (set4 w6 w.heap.size 0 t0) w.heap.size 0 t0 /\ OwT w.heap.size (set4 w6 w.heap.size 0 t0) t0) := by
     obtain ⟨a1, a2⟩ := HBK.out _ D6.out.1.on
     have a3 := D6.out.2.1
     have hz2 : w.heap.size < w2.heap.size := HZL.out
     refine ⟨set4_below a1 0 t0 (Nat.le_refl _), set4_tbx t0 z0 z1 z2 z3 (lt_of_block a2), ?_⟩
     have := a3.kept (w' := set4 w6 w.heap.size 0 t0) (fun a ha => set4_other _ _ _ _ _ (by have := (a3.ty a ha).1; omega)) (by rw [set4_size]; exact Nat.le_refl _)
     exact ⟨this.ta, this.cn, fun a ha => ⟨by have := (this.ty a ha).1; omega, (this.ty a ha).2⟩⟩
    change bodyPost _ _ _ _ _ (set4 w6 w.heap.size 0 t0)
    generalize set4 w6 w.heap.size 0 t0 = w7 at *
    have x0 := H5.out.2.1.c0
    have x1 := H5.out.2.1.c1
    have x2 := H5.out.2.1.c2
    have x3 := H5.out.2.1.c3
    simp only [Nat.zero_add] at x1 x2 x3
    refine bodyPost_ret (v := .tuple #[t0.val, .int .i64 0, .int .i64 0]) (by simp [results, Tryz.results12, go_sem, x0, x1, x2, x3]) rfl ?_
    refine ⟨H5.out.1, ?_⟩
    unfold dcE
    rw [HU.out]
    obtain ⟨-, -, a3, a4⟩ := D6.out
    rw [HA.out] at a4
    have e6 : t = t' := by simpa using a4
    rw [e6]
    exact ⟨t0, a3, H5.out.2.2, rfl⟩
   ·have HU : Hid (decU xs = (none, ee, (N : Int) - 4 - (zs.length : Int) + ea)) := HUN.out A p e ee ea HFN.out hE hz
    have t1 : (ee != 0) = true := by simpa using hz
    clear hE HUN HUS HFN HEP hz
    have wr1 : IntKind.i64.wrap ((N : Int) - 4) = (N : Int) - 4 := wrapI (by omega) (by omega)
    have wr2 : IntKind.i64.wrap ((N : Int) - 4 - (zs.length : Int)) = (N : Int) - 4 - (zs.length : Int) := wrapI (by omega) (by omega)
    have wr3 : IntKind.i64.wrap ((N : Int) - 4 - (zs.length : Int) + ea) = (N : Int) - 4 - (zs.length : Int) + ea := wrapI (by omega) (by omega)
    clear b1 b2 hNi hzi
    go_upto_region 11 with (first | (go_at_call 37; refine CW.out.mono ?_; rintro x w4 ⟨rfl, q⟩; obtain rfl := q.symm) | (go_at_call 40; refine CE.out.mono ?_; rintro x w5 ⟨rfl, b5⟩; have D5 : Hid (DcI w2 r bb ro rN rc zs A p e w5) := HD.out.later b5; clear b5))
    refine wp_world (fun w' => Below w.heap.size w w' /\ zBox w' w.heap.size) (HBK.out _ D5.out.on) fun w4 h4 => ?_
    have H4 : Hid (Below w.heap.size w w4 /\ zBox w4 w.heap.size) := h4
    clear h4 D5 HD CW CE HBK
    generalize (N : Int) - 4 - (zs.length : Int) = bg at *
    have H5 : Hid (Below w.heap.size w (w4.setCells w.heap.size 0 [.int .i64 0, .int .i64 0, .string ⟨#[]⟩, .slice none 0 0]) /\ zBox (w4.setCells w.heap.size 0 [.int .i64 0, .int .i64 0, .string ⟨#[]⟩, .slice none 0 0]) w.heap.size) := ⟨setCs_bel (Nat.le_refl _) _ _ _ H4.out.1, setCs_fourB H4.out.2⟩
    obtain ⟨⟨z0, z1, z2, z3⟩, f00, f01, f02, f03⟩ := zbx_cells H4.out.2
    clear H4
    go_wp2
    change bodyPost _ _ _ _ _ (w4.setCells w.heap.size 0 [.int .i64 0, .int .i64 0, .string ⟨#[]⟩, .slice none 0 0])
    generalize w4.setCells w.heap.size 0 [.int .i64 0, .int .i64 0, .string ⟨#[]⟩, .slice none 0 0] = w5 at *
    obtain ⟨⟨x0, x1, x2, x3⟩, -⟩ := zbx_cells H5.out.2
    refine bodyPost_ret (v := .tuple #[.agg #[.int .i64 0, .int .i64 0, .string ⟨#[]⟩, .slice none 0 0], .int .i64 ee, .int .i64 (bg + ea)]) (by simp [results, Tryz.results12, go_sem, x0, x1, x2, x3]) rfl ?_
    refine ⟨H5.out.1, ?_⟩
    unfold dcE
    rw [HU.out]
    rfl
  | false =>
   rw [hw] at CW
   by_cases hz : e = 0
   ·subst hz
    obtain ⟨k1, k2⟩ := h0 rfl
    rw [fail0] at CF
    have hsz := k1.sz
    have hpl := k1.pl
    have hda := dl_szA A
    obtain ⟨m, rfl⟩ : ∃ m, n = m + 1 := ⟨n - 1, by omega⟩
    have CR : Hid (∀ w', DcI w2 r bb ro rN rc zs A p 0 w' -> Calls Tryz.prog 39 #[.pointer (some ⟨r, 0, none⟩), .pointer (some ⟨bb, 0, none⟩)] w' fun x w' => x = .returned (.tuple #[]) /\ DcI w2 r bb ro rN rc zs (plS zs p 0 A).1 (plS zs p 0 A).2.1 (plS zs p 0 A).2.2 w') := fun w' hd => readPlace_W hd (by have := HZ.out.1; omega)
    have hgo := HL.out
    rw [dcL_go hw] at hgo
    have HNX : Hid (dcL zs m (plS zs p 0 A).1 (plS zs p 0 A).2.1 (plS zs p 0 A).2.2 = dcL zs (zs.length + 2) ([], []) 0 0 /\ ((plS zs p 0 A).2.2 = 0 -> InE zs (plS zs p 0 A).1 (plS zs p 0 A).2.1 /\ zs.length + 1 < m + (plS zs p 0 A).2.1) /\ ((plS zs p 0 A).2.2 ≠ 0 -> (plS zs p 0 A).2.2 ≠ 12 /\ (plS zs p 0 A).2.1 <= zs.length)) := by
     refine ⟨hgo, fun q => ?_, fun q => ?_⟩
     ·obtain ⟨c1, c2⟩ := inE_step HZ.out.2 k1 hw q
      exact ⟨c1, by omega⟩
     ·obtain ⟨c1, c2⟩ := plS_er HZ.out.2 hpl A
      exact ⟨by rcases c2 with c2 | c2; exact absurd c2 q; exact c2, c1⟩
    clear hgo hsz hpl hda k1 k2 h0 hne hw HL HUN HUS
    generalize (plS zs p 0 A).1 = A2 at *
    generalize (plS zs p 0 A).2.1 = p2 at *
    generalize (plS zs p 0 A).2.2 = e2 at *
    go_wp2_with (first
     | (go_at_call 37; refine CW.out.mono ?_; rintro x w4 ⟨rfl, q⟩; obtain rfl := q.symm)
     | (go_at_call 38; refine CF.out.mono ?_; rintro x w5 ⟨rfl, b5⟩; have D5 : Hid (DcI w2 r bb ro rN rc zs A p 0 w5) := HD.out.later b5; clear b5)
     | (go_at_call 39; refine (CR.out _ D5.out).mono ?_; rintro x w6 ⟨rfl, d6⟩; have D6 : Hid (DcI w2 r bb ro rN rc zs A2 p2 e2 w6) := d6; clear d6))
    go_roundg (gk - 1)
    case measure => have := HGN.out; omega
    case rel => exact ⟨m, A2, p2, e2, D6.out, HNX.out.1, HNX.out.2.1, HNX.out.2.2, by have := HGN.out; omega⟩
   ·obtain ⟨h12, hpl⟩ := hne hz
    have HFN : Hid (dcL zs (zs.length + 2) ([], []) 0 0 = (A, p, e)) := by
     show _ = _
     rw [<- HL.out]
     exact dcL_err hz h12 n
    rw [fail1 zs p hz h12] at CF
    obtain ⟨ee, ea, hE⟩ : ∃ ee ea, C.endS zs p e = (ee, ea) := ⟨_, _, rfl⟩
    obtain ⟨b1, b2, b3⟩ := endS_bd hpl hE
    have hz2 : ee ≠ 0 := fun q => hz (b3 q).1
    have CE : Hid (∀ w', DcI w2 r bb ro rN rc zs A p e w' -> Calls Tryz.prog 40 #[.pointer (some ⟨r, 0, none⟩)] w' fun x w'' => x = .returned (.tuple #[.int .i64 ee, .int .i64 ea]) /\ Below w'.heap.size w' w'') := fun w' hd => rend_B hd.rd ee ea hE
    have HU : Hid (decU xs = (none, ee, (N : Int) - 4 - (zs.length : Int) + ea)) := HUN.out A p e ee ea HFN.out hE hz2
    have t1 : (ee != 0) = true := by simpa using hz2
    clear hE HUN HUS HFN hz hz2 h12 hpl hne h0 HL HGN hw b3
    have wr1 : IntKind.i64.wrap ((N : Int) - 4) = (N : Int) - 4 := wrapI (by omega) (by omega)
    have wr2 : IntKind.i64.wrap ((N : Int) - 4 - (zs.length : Int)) = (N : Int) - 4 - (zs.length : Int) := wrapI (by omega) (by omega)
    have wr3 : IntKind.i64.wrap ((N : Int) - 4 - (zs.length : Int) + ea) = (N : Int) - 4 - (zs.length : Int) + ea := wrapI (by omega) (by omega)
    clear b1 b2 hNi hzi
    go_upto_region 11 with (first | (go_at_call 37; refine CW.out.mono ?_; rintro x w4 ⟨rfl, q⟩; obtain rfl := q.symm) | (go_at_call 38; refine CF.out.mono ?_; rintro x w4b ⟨rfl, b4⟩; have D4 : Hid (DcI w2 r bb ro rN rc zs A p e w4b) := HD.out.later b4; clear b4) | (go_at_call 40; refine (CE.out _ D4.out).mono ?_; rintro x w5 ⟨rfl, b5⟩; have D5 : Hid (DcI w2 r bb ro rN rc zs A p e w5) := D4.out.later b5; clear b5))
    refine wp_world (fun w' => Below w.heap.size w w' /\ zBox w' w.heap.size) (HBK.out _ D5.out.on) fun w4 h4 => ?_
    have H4 : Hid (Below w.heap.size w w4 /\ zBox w4 w.heap.size) := h4
    clear h4 D5 HD CW CE CF D4 HBK
    generalize (N : Int) - 4 - (zs.length : Int) = bg at *
    have H5 : Hid (Below w.heap.size w (w4.setCells w.heap.size 0 [.int .i64 0, .int .i64 0, .string ⟨#[]⟩, .slice none 0 0]) /\ zBox (w4.setCells w.heap.size 0 [.int .i64 0, .int .i64 0, .string ⟨#[]⟩, .slice none 0 0]) w.heap.size) := ⟨setCs_bel (Nat.le_refl _) _ _ _ H4.out.1, setCs_fourB H4.out.2⟩
    obtain ⟨⟨z0, z1, z2, z3⟩, f00, f01, f02, f03⟩ := zbx_cells H4.out.2
    clear H4
    go_wp2
    change bodyPost _ _ _ _ _ (w4.setCells w.heap.size 0 [.int .i64 0, .int .i64 0, .string ⟨#[]⟩, .slice none 0 0])
    generalize w4.setCells w.heap.size 0 [.int .i64 0, .int .i64 0, .string ⟨#[]⟩, .slice none 0 0] = w5 at *
    obtain ⟨⟨x0, x1, x2, x3⟩, -⟩ := zbx_cells H5.out.2
    refine bodyPost_ret (v := .tuple #[.agg #[.int .i64 0, .int .i64 0, .string ⟨#[]⟩, .slice none 0 0], .int .i64 ee, .int .i64 (bg + ea)]) (by simp [results, Tryz.results12, go_sem, x0, x1, x2, x3]) rfl ?_
    refine ⟨H5.out.1, ?_⟩
    unfold dcE
    rw [HU.out]
    rfl
theorem dec_W (hN : N = xs.length) (hl : xs.length <= 140737488355328) (hcap : xs.length <= cap) (hr : C.RowAt w ao xs) (hm : C.Magic w) : Calls Tryz.prog 12 #[.slice ao N cap] w fun e w' => Below w.heap.size w w' /\ dcE w.heap.size xs e w' := by
 obtain ⟨zs, oe, oa, hF⟩ : ∃ zs oe oa, C.openS 3 xs = (zs, oe, oa) := ⟨_, _, _, rfl⟩
 by_cases h0 : oe = 0
 ·subst h0
  exact dec_some hN hl hcap hr hm zs oa hF
 ·exact dec_none hN hl hcap hr hm zs oe oa hF h0
end
end Go.Proofs.YtobhemaikomdaaaGreatDoor
