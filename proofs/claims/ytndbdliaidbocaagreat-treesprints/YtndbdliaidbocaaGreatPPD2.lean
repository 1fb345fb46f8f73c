import Derived.Test.YtndbdliaidbocaaGreatPPR4ToPD1
namespace Go.Proofs.YtndbdliaidbocaaGreat
set_option linter.unusedVariables false
open Go.RowKit
set_option linter.unusedSimpArgs false in
set_option maxRecDepth 100000 in
set_option maxHeartbeats 8000000 in
theorem rprint_S (g : GV) (t : TV) (w : World) (h : GAt 140737488355328 w g) (ht : TAt w t) (hsz : (plT 0 t).length <= 1048576) (hpl : PlAll g t) (hlk : NoLk t) (hn1 : ∀ s ∈ g.ts, s.size <= 32) (hn2 : ∀ s ∈ g.ns, s.size <= 32) :
  Calls Tryz.prog 9 #[g.val, t.val] w fun e w' => e = .returned (.string ⟨(txT g t).toArray⟩) /\ Below w.heap.size w w' := by
 have BA : Hid (Below w.heap.size w ((w.alloc (gBox g)).alloc (tBox t)) /\ ((w.alloc (gBox g)).alloc (tBox t)).heap[w.heap.size]? = some (gBox g) /\ ((w.alloc (gBox g)).alloc (tBox t)).heap[w.heap.size + 1]? = some (tBox t)) := by
  have h1 := below_alloc w (gBox g)
  have h2 := below_alloc (w.alloc (gBox g)) (tBox t)
  refine ⟨h1.trans (h2.mono h1.size), (h2.block _ (by simp)).trans (heap_alloc_new _ _), ?_⟩
  have := heap_alloc_new (w.alloc (gBox g)) (tBox t)
  rwa [show (w.alloc (gBox g)).heap.size = w.heap.size + 1 by simp] at this
 have PC : Hid (∀ w1, Below w.heap.size w w1 -> Calls Tryz.prog 22 #[t.val] w1 fun e w' => ∃ a c, e = .returned (.slice a (plT 0 t).length c) /\ SPo w' (.slice a (plT 0 t).length c) (plT 0 t) /\ (∀ j, (Value.slice a (plT 0 t).length c).ownBlock = some j -> w1.heap.size < j) /\ Below w1.heap.size w1 w') := fun w1 hb => places_S t w1 (ht.later hb) (by omega)
 have HG : Hid (∀ w1, Below w.heap.size w w1 -> GAt 140737488355328 w1 g) := fun w1 hb => h.later hb
 have HPL : Hid (∀ x ∈ plT 0 t, PlOk g x.t) := fun x hx => hpl 0 x hx
 have HFIN : Hid (clPr 0 (foP g false (plT 0 t) ([], [])).1 (foP g false (plT 0 t) ([], [])).2 = ([], txT g t)) := foP_all g t hlk
 have hpos : 0 < (plT 0 t).length := by rw [plT_eq]; simp
 have HSM : Hid (∀ i, i <= (plT 0 t).length -> (foP g false ((plT 0 t).take i) ([], [])).2.length + (foP g false ((plT 0 t).take i) ([], [])).1.length <= 40000000) := fun i hi => by
  have := foP_sum hn1 hn2 ((plT 0 t).take i) false ([], [])
  rw [List.length_take] at this
  simp only [List.length_nil] at this
  omega
 have HN : Hid ((∀ s ∈ g.ts, s.size <= 32) /\ ∀ s ∈ g.ns, s.size <= 32) := ⟨hn1, hn2⟩
 have HSZ : Hid ((plT 0 t).length <= 1048576) := hsz
 clear h ht hpl hlk hn1 hn2
 generalize plT 0 t = P at *
 generalize txT g t = tx at *
 go_enter Tryz.func9, Tryz.ntmps9
 go_upto_region 3 with fail
 refine wp_world (fun w' => Below w.heap.size w w' /\ w'.heap[w.heap.size]? = some (gBox g) /\ w'.heap[w.heap.size + 1]? = some (tBox t)) BA.out fun w1 h1 => ?_
 have H1 : Hid (Below w.heap.size w w1 /\ w1.heap[w.heap.size]? = some (gBox g) /\ w1.heap[w.heap.size + 1]? = some (tBox t)) := h1
 clear h1 BA
 obtain ⟨c0, c1, c2, c3⟩ := tb_cells H1.out.2.2
 go_upto_region 4 with (go_at_call 22; refine (PC.out _ H1.out.1).mono ?_; rintro e w2 ⟨pa, pc, rfl, hp, ho, hb2⟩; have W2 : Hid (DPs w g P (.slice pa P.length pc) w2.heap.size [] (.slice none 0 0) w2) := ⟨H1.out.1.trans (hb2.mono H1.out.1.size), (hb2.block _ (lt_of_block H1.out.2.1)).trans H1.out.2.1, hp, fun j hj => ⟨by have := ho j hj; have := H1.out.1.size; omega, hp.lt j hj⟩, IL.nil _, fun j hj => by simp [Value.ownBlock] at hj, Nat.lt_of_lt_of_le (lt_of_block H1.out.2.1) hb2.size, Nat.le_refl _⟩; clear hp ho hb2 c0 c1 c2 c3)
 clear PC H1
 obtain ⟨pb, hpb⟩ : ∃ pb, pa = some ⟨pb, 0, none⟩ := by
  obtain ⟨b, c, hv, -, -⟩ := RO.cell (f := spCells) (fun _ => rfl) W2.out.p hpos
  simp only [Value.slice.injEq, true_and] at hv
  exact ⟨b, hv.1⟩
 subst hpb
 generalize w2.heap.size = hb at *
 go_wp2
 go_loopw [5, 6, 8] (fun vs vo z wr => ∃ (i : Nat) (O : List Int) (s : List UInt8) (sb : ByteArray), i <= P.length /\ z = .int .i64 (i : Int) /\ vs = .string sb /\ sb.data.toList = s /\ DPs w g P (.slice (some ⟨pb, 0, none⟩) P.length pc) hb O vo wr /\ foP g false (P.take i) ([], []) = (O, s)) (fun _ _ z _ => P.length + 1 - (intOf z).toNat)
 case atStart => exact ⟨0, [], [], _, Nat.zero_le _, rfl, rfl, rfl, W2.out, rfl⟩
 case round =>
  clear W2
  obtain ⟨i, O, s, sb, hi, rfl, rfl, hsb, hD, hfo⟩ := hrel
  obtain ⟨va, vc, rfl⟩ := il_len hD.o
  rw [List.length_reverse] at hD ⊢
  have ile : (i : Int) <= (P.length : Int) := by omega
  have HD : Hid (DPs w g P (.slice (some ⟨pb, 0, none⟩) P.length pc) hb O (.slice va O.length vc) wr) := hD
  have HFO : Hid (foP g false (P.take i) ([], []) = (O, s)) := hfo
  have HSB : Hid (sb.data.toList = s) := hsb
  have HS0 : Hid (s.length + O.length <= 40000000) := by have := HSM.out i hi; rw [hfo] at this; exact this
  clear hD hfo hsb
  obtain ⟨wu, rfl⟩ : ∃ wu : World, wu = wr := ⟨_, rfl⟩
  by_cases hip : i < P.length
  ·have ilt : (i : Int) < (P.length : Int) := by omega
   obtain ⟨x, hx⟩ : ∃ x, P[i]? = some x := ⟨_, List.getElem?_eq_getElem hip⟩
   obtain ⟨-, -, c4⟩ := HD.out.at hx
   have HX : Hid (P[i]? = some x) := hx
   have HOK : Hid (PlOk g x.t) := HPL.out x (List.mem_of_getElem? hx)
   have HST : Hid (foP g false (P.take (i + 1)) ([], []) = stP g (decide (0 < i)) (O, s) x) := by
    show _ = _
    have e : P.take (i + 1) = P.take i ++ [x] := by
     obtain ⟨hlt, hxe⟩ := List.getElem?_eq_some_iff.1 hx
     rw [List.take_succ_eq_append_getElem hlt, hxe]
    have e2 : (P.take i).length = i := by rw [List.length_take]; omega
    rw [e, foP_snoc, HFO.out, e2]
   clear hx
   obtain ⟨dd, hdd⟩ : ∃ dd, x.d = dd := ⟨_, rfl⟩
   rw [hdd] at c4
   have HDD : Hid (x.d = dd) := hdd
   clear hdd
   go_wp2
   clear c4
   go_loopw [5, 6] (fun vs vo wr => ∃ (O1 : List Int) (s1 : List UInt8) (sb1 : ByteArray), vs = .string sb1 /\ sb1.data.toList = s1 /\ DPs w g P (.slice (some ⟨pb, 0, none⟩) P.length pc) hb O1 vo wr /\ clPr dd O1 s1 = clPr dd O s /\ s1.length + O1.length <= 40000000) (fun _ v _ => lenP v)
   case atStart => exact ⟨O, s, _, rfl, HSB.out, HD.out, rfl, HS0.out⟩
   case round =>
    clear HD HSB
    obtain ⟨O1, s1, sb1, rfl, hsb, hD, hcl, hs1⟩ := hrel
    have HCL : Hid (clPr dd O1 s1 = clPr dd O s) := hcl
    have HSB : Hid (sb1.data.toList = s1) := hsb
    have HS1 : Hid (s1.length + O1.length <= 40000000) := hs1
    have HZ : Hid (sb1.size = s1.length) := by show _ = _; rw [<- hsb, Array.length_toList]; rfl
    clear hcl hsb hs1
    rcases O1 with _ | ⟨oo, O2⟩
    ·obtain ⟨va2, vc2, rfl⟩ := il_len hD.o
     change DPs w g P _ hb [] (.slice va2 0 vc2) wr at hD
     have HDx : Hid (DPs w g P (.slice (some ⟨pb, 0, none⟩) P.length pc) hb [] (.slice va2 0 vc2) wr) := hD
     have HE : Hid (clPr dd O s = ([], s1)) := HCL.out.symm
     clear hD HCL
     rcases HOK.out with ⟨hp, hk0, hk1⟩ | ⟨hp, hp1, hq⟩
     ·have hjx : Hid (x.t.prod = -1) := hp
      by_cases iz : i = 0
      ·have i0 : ¬ (0 : Int) < (i : Int) := by omega
       clear iz
       have e0 : (x.t.prod == -1) = true := by simpa using hp
       obtain ⟨c0, c1, -⟩ := HDx.out.at HX.out
       have HBL : Hid (blP (decide (0 < i)) = []) := by show _ = _; unfold blP; rw [if_neg (by simp; omega)]
       obtain ⟨k, hk⟩ : ∃ k : Nat, x.t.kind = (k : Int) := ⟨x.t.kind.toNat, by omega⟩
       have hkl : k < g.ts.length := by omega
       have klt : (k : Int) < (g.ts.length : Int) := by omega
       obtain ⟨nm, hnm⟩ : ∃ nm, g.ts.getD k ByteArray.empty = nm := ⟨_, rfl⟩
       have NMS : Hid (nm.size <= 32 /\ nm.data.toList = hdP g x.t) := ⟨by rw [<- hnm]; exact HN.out.1 _ (mem_getD hkl), by unfold hdP nmT; rw [if_pos hp, hk, Int.toNat_natCast, hnm]⟩
       rw [hk] at c1
       have z0 : ¬ 9223372036854775807 < sb1.size + 1 := by have := HZ.out; have := HS1.out; omega
       have z1 : ¬ 9223372036854775807 < sb1.size + 1 + 1 := by have := HZ.out; have := HS1.out; omega
       have z2 : ¬ 9223372036854775807 < sb1.size + nm.size := by have := HZ.out; have := HS1.out; have := NMS.out.1; omega
       have z3 : ¬ 9223372036854775807 < sb1.size + 1 + nm.size := by have := HZ.out; have := HS1.out; have := NMS.out.1; omega
       have z4 : ¬ 9223372036854775807 < sb1.size + 1 + 1 + nm.size := by have := HZ.out; have := HS1.out; have := NMS.out.1; omega
       have HNX : Hid (foP g false (P.take (i + 1)) ([], []) = ([], s1 ++ ([] ++ hdP g x.t))) := by show _ = _; rw [HST.out]; unfold stP; dsimp only; rw [HDD.out, HE.out, if_pos hp, HBL.out]
       have HNB : Hid ((sb1 ++ nm).data.toList = s1 ++ ([] ++ hdP g x.t)) := by show _ = _; rw [catB, HSB.out, NMS.out.2]; simp
       have CK : Hid (∀ wd, Below wr.heap.size wr wd -> DPs w g P (.slice (some ⟨pb, 0, none⟩) P.length pc) hb [] (.slice va2 0 vc2) wd) := fun wd hb2 => HDx.out.any hb2
       clear hp
       go_upto_region 17 with fail
       clear c0 c1
       obtain ⟨wd, hwd⟩ : ∃ wd : World, wd = wr.drew := ⟨_, rfl⟩
       have DX : Hid (DPs w g P (.slice (some ⟨pb, 0, none⟩) P.length pc) hb [] (.slice va2 0 vc2) wd) := CK.out wd (by rw [hwd]; exact (Below.refl _ _).drew)
       obtain ⟨c0, c1, -⟩ := DX.out.at HX.out
       rw [hk] at c1
       obtain ⟨tbk, tof, hta, tc⟩ := ts_cells (HG.out _ DX.out.bel) hkl
       obtain ⟨g0, -, -, -, -⟩ := gbx_cells DX.out.gb
       rw [hta] at g0
       rw [hnm] at tc
       clear hnm hk hkl
       refine wp_region_s (by kernel_rfl) (by kernel_rfl) wd hwd ?_
       clear hwd
       iterate 14 (refine st_yes (v := ?_) (by rfl) ?_ ?_; rotate_left; (· (go_simp; with_reducible rfl)); (try simp only [Act.put, List.setIfInBounds_toArray, List.set_cons_zero, List.set_cons_succ]))
       refine st_nil ?_
       clear c0 c1 g0 tc
       go_wp2
       go_roundw
       case rel => exact ⟨i + 1, _, _, _, by omega, by go_num, rfl, HNB.out, DX.out, HNX.out⟩
       case measure => simp [intOf]; omega
      ·have i0 : (0 : Int) < (i : Int) := by omega
       clear iz
       have e0 : (x.t.prod == -1) = true := by simpa using hp
       obtain ⟨c0, c1, -⟩ := HDx.out.at HX.out
       have HBL : Hid (blP (decide (0 < i)) = [32]) := by show _ = _; unfold blP; rw [if_pos (by simp; omega)]
       obtain ⟨k, hk⟩ : ∃ k : Nat, x.t.kind = (k : Int) := ⟨x.t.kind.toNat, by omega⟩
       have hkl : k < g.ts.length := by omega
       have klt : (k : Int) < (g.ts.length : Int) := by omega
       obtain ⟨nm, hnm⟩ : ∃ nm, g.ts.getD k ByteArray.empty = nm := ⟨_, rfl⟩
       have NMS : Hid (nm.size <= 32 /\ nm.data.toList = hdP g x.t) := ⟨by rw [<- hnm]; exact HN.out.1 _ (mem_getD hkl), by unfold hdP nmT; rw [if_pos hp, hk, Int.toNat_natCast, hnm]⟩
       rw [hk] at c1
       have z0 : ¬ 9223372036854775807 < sb1.size + 1 := by have := HZ.out; have := HS1.out; omega
       have z1 : ¬ 9223372036854775807 < sb1.size + 1 + 1 := by have := HZ.out; have := HS1.out; omega
       have z2 : ¬ 9223372036854775807 < sb1.size + nm.size := by have := HZ.out; have := HS1.out; have := NMS.out.1; omega
       have z3 : ¬ 9223372036854775807 < sb1.size + 1 + nm.size := by have := HZ.out; have := HS1.out; have := NMS.out.1; omega
       have z4 : ¬ 9223372036854775807 < sb1.size + 1 + 1 + nm.size := by have := HZ.out; have := HS1.out; have := NMS.out.1; omega
       have HNX : Hid (foP g false (P.take (i + 1)) ([], []) = ([], s1 ++ ([32] ++ hdP g x.t))) := by show _ = _; rw [HST.out]; unfold stP; dsimp only; rw [HDD.out, HE.out, if_pos hp, HBL.out]
       have HNB : Hid (((sb1 ++ (⟨#[32]⟩ : ByteArray)) ++ nm).data.toList = s1 ++ ([32] ++ hdP g x.t)) := by show _ = _; rw [catB, catB, HSB.out, NMS.out.2]; simp
       have CK : Hid (∀ wd, Below wr.heap.size wr wd -> DPs w g P (.slice (some ⟨pb, 0, none⟩) P.length pc) hb [] (.slice va2 0 vc2) wd) := fun wd hb2 => HDx.out.any hb2
       clear hp
       go_upto_region 17 with fail
       clear c0 c1
       obtain ⟨wd, hwd⟩ : ∃ wd : World, wd = wr.drew := ⟨_, rfl⟩
       have DX : Hid (DPs w g P (.slice (some ⟨pb, 0, none⟩) P.length pc) hb [] (.slice va2 0 vc2) wd) := CK.out wd (by rw [hwd]; exact (Below.refl _ _).drew)
       obtain ⟨c0, c1, -⟩ := DX.out.at HX.out
       rw [hk] at c1
       obtain ⟨tbk, tof, hta, tc⟩ := ts_cells (HG.out _ DX.out.bel) hkl
       obtain ⟨g0, -, -, -, -⟩ := gbx_cells DX.out.gb
       rw [hta] at g0
       rw [hnm] at tc
       clear hnm hk hkl
       refine wp_region_s (by kernel_rfl) (by kernel_rfl) wd hwd ?_
       clear hwd
       iterate 14 (refine st_yes (v := ?_) (by rfl) ?_ ?_; rotate_left; (· (go_simp; with_reducible rfl)); (try simp only [Act.put, List.setIfInBounds_toArray, List.set_cons_zero, List.set_cons_succ]))
       refine st_nil ?_
       clear c0 c1 g0 tc
       go_wp2
       go_roundw
       case rel => exact ⟨i + 1, _, _, _, by omega, by go_num, rfl, HNB.out, DX.out, HNX.out⟩
       case measure => simp [intOf]; omega
     ·have hjx : Hid (x.t.prod = (x.t.prod.toNat : Int)) := by show _ = _; omega
      by_cases iz : i = 0
      ·have i0 : ¬ (0 : Int) < (i : Int) := by omega
       clear iz
       have e0 : (x.t.prod == -1) = false := by simp; omega
       obtain ⟨c0, c1, -⟩ := HDx.out.at HX.out
       have HBL : Hid (blP (decide (0 < i)) = []) := by show _ = _; unfold blP; rw [if_neg (by simp; omega)]
       obtain ⟨j, hjj⟩ : ∃ j, x.t.prod.toNat = j := ⟨_, rfl⟩
       rw [hjj] at hjx hq
       have hj : x.t.prod = (j : Int) := hjx.out
       have hjl : j < g.ps.length := by omega
       have jlt : (j : Int) < (g.ps.length : Int) := by omega
       obtain ⟨k, hk⟩ : ∃ k : Nat, (g.ps.getD j .none).left = (k : Int) := ⟨(g.ps.getD j .none).left.toNat, by omega⟩
       have hkl : k < g.ns.length := by omega
       have klt : (k : Int) < (g.ns.length : Int) := by omega
       obtain ⟨nm, hnm⟩ : ∃ nm, g.ns.getD k ByteArray.empty = nm := ⟨_, rfl⟩
       have NMS : Hid (nm.size <= 32 /\ 40 :: nm.data.toList = hdP g x.t) := ⟨by rw [<- hnm]; exact HN.out.2 _ (mem_getD hkl), by unfold hdP nmN; rw [if_neg (by omega), hj, Int.toNat_natCast, hk, Int.toNat_natCast, hnm]⟩
       rw [hj] at c0 e0
       have z0 : ¬ 9223372036854775807 < sb1.size + 1 := by have := HZ.out; have := HS1.out; omega
       have z1 : ¬ 9223372036854775807 < sb1.size + 1 + 1 := by have := HZ.out; have := HS1.out; omega
       have z2 : ¬ 9223372036854775807 < sb1.size + nm.size := by have := HZ.out; have := HS1.out; have := NMS.out.1; omega
       have z3 : ¬ 9223372036854775807 < sb1.size + 1 + nm.size := by have := HZ.out; have := HS1.out; have := NMS.out.1; omega
       have z4 : ¬ 9223372036854775807 < sb1.size + 1 + 1 + nm.size := by have := HZ.out; have := HS1.out; have := NMS.out.1; omega
       have HNX : Hid (foP g false (P.take (i + 1)) ([], []) = (dd :: [], s1 ++ ([] ++ hdP g x.t))) := by show _ = _; rw [HST.out]; unfold stP; dsimp only; rw [HDD.out, HE.out, if_neg (by omega), HBL.out]
       have HNB : Hid ((sb1 ++ (⟨#[40]⟩ : ByteArray) ++ nm).data.toList = s1 ++ ([] ++ hdP g x.t)) := by show _ = _; rw [catB, catB, HSB.out, <- NMS.out.2]; simp
       have CK : Hid (∀ wd, Below wr.heap.size wr wd -> DPs w g P (.slice (some ⟨pb, 0, none⟩) P.length pc) hb [] (.slice va2 0 vc2) wd) := fun wd hb2 => HDx.out.any hb2
       clear hp hj hjj
       go_upto_region 18 with fail
       clear c0 c1
       obtain ⟨wd, hwd⟩ : ∃ wd : World, wd = wr.drew := ⟨_, rfl⟩
       have DX : Hid (DPs w g P (.slice (some ⟨pb, 0, none⟩) P.length pc) hb [] (.slice va2 0 vc2) wd) := CK.out wd (by rw [hwd]; exact (Below.refl _ _).drew)
       obtain ⟨c0, c1, -⟩ := DX.out.at HX.out
       rw [hjx.out] at c0
       obtain ⟨tbk, tof, hta, tc⟩ := ns_cells (HG.out _ DX.out.bel) hkl
       obtain ⟨sbk, sof, hpa, -, sc, -⟩ := ps_cells (HG.out _ DX.out.bel) hjl
       obtain ⟨-, g1, -, g3, -⟩ := gbx_cells DX.out.gb
       rw [hta] at g1
       rw [hpa] at g3
       rw [hk] at sc
       rw [hnm] at tc
       clear hnm hk hkl hjl
       refine wp_region_s (by kernel_rfl) (by kernel_rfl) wd hwd ?_
       clear hwd
       iterate 19 (refine st_yes (v := ?_) (by rfl) ?_ ?_; rotate_left; (· (go_simp; with_reducible rfl)); (try simp only [Act.put, List.setIfInBounds_toArray, List.set_cons_zero, List.set_cons_succ]))
       refine st_nil ?_
       clear c0 c1 g1 g3 sc tc
       have HLL : Hid ((List.reverse ([] : List Int)).length <= 100000000) := by have := HS1.out; show _ <= _; rw [List.length_reverse]; omega
       go_wp2_with (at_builtin; refine wpList_il_append_w rfl _ _ rfl (.slice va2 0 vc2) (List.reverse ([] : List Int)) rfl (DX.out.o.later (below_alloc _ _)) wd.heap.size 1 dd rfl (by simp) HLL.out ?_; intro a4 n4 c4 w4 ho4 hg4; have W4 : Hid (DPs w g P (.slice (some ⟨pb, 0, none⟩) P.length pc) hb (dd :: []) (.slice a4 n4 c4) w4) := DX.out.push (below_alloc _ _) hg4 ho4; clear ho4 hg4)
       go_roundw
       case rel => exact ⟨i + 1, _, _, _, by omega, by go_num, rfl, HNB.out, W4.out, HNX.out⟩
       case measure => simp [intOf]; omega
      ·have i0 : (0 : Int) < (i : Int) := by omega
       clear iz
       have e0 : (x.t.prod == -1) = false := by simp; omega
       obtain ⟨c0, c1, -⟩ := HDx.out.at HX.out
       have HBL : Hid (blP (decide (0 < i)) = [32]) := by show _ = _; unfold blP; rw [if_pos (by simp; omega)]
       obtain ⟨j, hjj⟩ : ∃ j, x.t.prod.toNat = j := ⟨_, rfl⟩
       rw [hjj] at hjx hq
       have hj : x.t.prod = (j : Int) := hjx.out
       have hjl : j < g.ps.length := by omega
       have jlt : (j : Int) < (g.ps.length : Int) := by omega
       obtain ⟨k, hk⟩ : ∃ k : Nat, (g.ps.getD j .none).left = (k : Int) := ⟨(g.ps.getD j .none).left.toNat, by omega⟩
       have hkl : k < g.ns.length := by omega
       have klt : (k : Int) < (g.ns.length : Int) := by omega
       obtain ⟨nm, hnm⟩ : ∃ nm, g.ns.getD k ByteArray.empty = nm := ⟨_, rfl⟩
       have NMS : Hid (nm.size <= 32 /\ 40 :: nm.data.toList = hdP g x.t) := ⟨by rw [<- hnm]; exact HN.out.2 _ (mem_getD hkl), by unfold hdP nmN; rw [if_neg (by omega), hj, Int.toNat_natCast, hk, Int.toNat_natCast, hnm]⟩
       rw [hj] at c0 e0
       have z0 : ¬ 9223372036854775807 < sb1.size + 1 := by have := HZ.out; have := HS1.out; omega
       have z1 : ¬ 9223372036854775807 < sb1.size + 1 + 1 := by have := HZ.out; have := HS1.out; omega
       have z2 : ¬ 9223372036854775807 < sb1.size + nm.size := by have := HZ.out; have := HS1.out; have := NMS.out.1; omega
       have z3 : ¬ 9223372036854775807 < sb1.size + 1 + nm.size := by have := HZ.out; have := HS1.out; have := NMS.out.1; omega
       have z4 : ¬ 9223372036854775807 < sb1.size + 1 + 1 + nm.size := by have := HZ.out; have := HS1.out; have := NMS.out.1; omega
       have HNX : Hid (foP g false (P.take (i + 1)) ([], []) = (dd :: [], s1 ++ ([32] ++ hdP g x.t))) := by show _ = _; rw [HST.out]; unfold stP; dsimp only; rw [HDD.out, HE.out, if_neg (by omega), HBL.out]
       have HNB : Hid (((sb1 ++ (⟨#[32]⟩ : ByteArray)) ++ (⟨#[40]⟩ : ByteArray) ++ nm).data.toList = s1 ++ ([32] ++ hdP g x.t)) := by show _ = _; rw [catB, catB, catB, HSB.out, <- NMS.out.2]; simp
       have CK : Hid (∀ wd, Below wr.heap.size wr wd -> DPs w g P (.slice (some ⟨pb, 0, none⟩) P.length pc) hb [] (.slice va2 0 vc2) wd) := fun wd hb2 => HDx.out.any hb2
       clear hp hj hjj
       go_upto_region 18 with fail
       clear c0 c1
       obtain ⟨wd, hwd⟩ : ∃ wd : World, wd = wr.drew := ⟨_, rfl⟩
       have DX : Hid (DPs w g P (.slice (some ⟨pb, 0, none⟩) P.length pc) hb [] (.slice va2 0 vc2) wd) := CK.out wd (by rw [hwd]; exact (Below.refl _ _).drew)
       obtain ⟨c0, c1, -⟩ := DX.out.at HX.out
       rw [hjx.out] at c0
       obtain ⟨tbk, tof, hta, tc⟩ := ns_cells (HG.out _ DX.out.bel) hkl
       obtain ⟨sbk, sof, hpa, -, sc, -⟩ := ps_cells (HG.out _ DX.out.bel) hjl
       obtain ⟨-, g1, -, g3, -⟩ := gbx_cells DX.out.gb
       rw [hta] at g1
       rw [hpa] at g3
       rw [hk] at sc
       rw [hnm] at tc
       clear hnm hk hkl hjl
       refine wp_region_s (by kernel_rfl) (by kernel_rfl) wd hwd ?_
       clear hwd
       iterate 19 (refine st_yes (v := ?_) (by rfl) ?_ ?_; rotate_left; (· (go_simp; with_reducible rfl)); (try simp only [Act.put, List.setIfInBounds_toArray, List.set_cons_zero, List.set_cons_succ]))
       refine st_nil ?_
       clear c0 c1 g1 g3 sc tc
       have HLL : Hid ((List.reverse ([] : List Int)).length <= 100000000) := by have := HS1.out; show _ <= _; rw [List.length_reverse]; omega
       go_wp2_with (at_builtin; refine wpList_il_append_w rfl _ _ rfl (.slice va2 0 vc2) (List.reverse ([] : List Int)) rfl (DX.out.o.later (below_alloc _ _)) wd.heap.size 1 dd rfl (by simp) HLL.out ?_; intro a4 n4 c4 w4 ho4 hg4; have W4 : Hid (DPs w g P (.slice (some ⟨pb, 0, none⟩) P.length pc) hb (dd :: []) (.slice a4 n4 c4) w4) := DX.out.push (below_alloc _ _) hg4 ho4; clear ho4 hg4)
       go_roundw
       case rel => exact ⟨i + 1, _, _, _, by omega, by go_num, rfl, HNB.out, W4.out, HNX.out⟩
       case measure => simp [intOf]; omega
    ·obtain ⟨ob, oc, rfl, hoc, ck, hD2⟩ := hD.pop
     have hs1 := slice_toP ob oc (O2.length + 1) O2.length (by omega)
     have hol : O2.length <= 40000000 := by have := HS1.out; simp only [List.length_cons] at this; omega
     by_cases hd : dd <= oo
     ·have d1 : decide (dd <= oo) = true := decide_eq_true hd
      have HD2 : Hid (DPs w g P (.slice (some ⟨pb, 0, none⟩) P.length pc) hb O2 (.slice (some ⟨ob, 0, none⟩) O2.length oc) wr) := hD2
      have HCN : Hid (clPr dd O2 (s1 ++ [41]) = clPr dd O s) := by show _ = _; rw [<- HCL.out, clPr, if_pos hd]
      have HSN : Hid ((sb1 ++ (⟨#[41]⟩ : ByteArray)).data.toList = s1 ++ [41]) := by show _ = _; rw [catB, HSB.out]
      have HS2 : Hid ((s1 ++ [41]).length + O2.length <= 40000000) := by have := HS1.out; simp only [List.length_cons] at this; show _ <= _; simp only [List.length_append, List.length_cons, List.length_nil]; omega
      have z0 : ¬ 9223372036854775807 < sb1.size + 1 := by have := HZ.out; have := HS1.out; omega
      clear hD hD2 hd
      go_wp2
      go_roundw
      case rel => exact ⟨O2, s1 ++ [41], _, rfl, HSN.out, HD2.out, HCN.out, HS2.out⟩
      case measure => simp [lenP]
     ·have d1 : decide (dd <= oo) = false := decide_eq_false hd
      have HDx : Hid (DPs w g P (.slice (some ⟨pb, 0, none⟩) P.length pc) hb (oo :: O2) (.slice (some ⟨ob, 0, none⟩) (O2.length + 1) oc) wr) := hD
      have HE : Hid (clPr dd O s = (oo :: O2, s1)) := by show _ = _; rw [<- HCL.out, clPr, if_neg hd]
      clear hD hD2 HCL
      rcases HOK.out with ⟨hp, hk0, hk1⟩ | ⟨hp, hp1, hq⟩
      ·have hjx : Hid (x.t.prod = -1) := hp
       by_cases iz : i = 0
       ·have i0 : ¬ (0 : Int) < (i : Int) := by omega
        clear iz
        have e0 : (x.t.prod == -1) = true := by simpa using hp
        obtain ⟨c0, c1, -⟩ := HDx.out.at HX.out
        have HBL : Hid (blP (decide (0 < i)) = []) := by show _ = _; unfold blP; rw [if_neg (by simp; omega)]
        obtain ⟨k, hk⟩ : ∃ k : Nat, x.t.kind = (k : Int) := ⟨x.t.kind.toNat, by omega⟩
        have hkl : k < g.ts.length := by omega
        have klt : (k : Int) < (g.ts.length : Int) := by omega
        obtain ⟨nm, hnm⟩ : ∃ nm, g.ts.getD k ByteArray.empty = nm := ⟨_, rfl⟩
        have NMS : Hid (nm.size <= 32 /\ nm.data.toList = hdP g x.t) := ⟨by rw [<- hnm]; exact HN.out.1 _ (mem_getD hkl), by unfold hdP nmT; rw [if_pos hp, hk, Int.toNat_natCast, hnm]⟩
        rw [hk] at c1
        have z0 : ¬ 9223372036854775807 < sb1.size + 1 := by have := HZ.out; have := HS1.out; omega
        have z1 : ¬ 9223372036854775807 < sb1.size + 1 + 1 := by have := HZ.out; have := HS1.out; omega
        have z2 : ¬ 9223372036854775807 < sb1.size + nm.size := by have := HZ.out; have := HS1.out; have := NMS.out.1; omega
        have z3 : ¬ 9223372036854775807 < sb1.size + 1 + nm.size := by have := HZ.out; have := HS1.out; have := NMS.out.1; omega
        have z4 : ¬ 9223372036854775807 < sb1.size + 1 + 1 + nm.size := by have := HZ.out; have := HS1.out; have := NMS.out.1; omega
        have HNX : Hid (foP g false (P.take (i + 1)) ([], []) = ((oo :: O2), s1 ++ ([] ++ hdP g x.t))) := by show _ = _; rw [HST.out]; unfold stP; dsimp only; rw [HDD.out, HE.out, if_pos hp, HBL.out]
        have HNB : Hid ((sb1 ++ nm).data.toList = s1 ++ ([] ++ hdP g x.t)) := by show _ = _; rw [catB, HSB.out, NMS.out.2]; simp
        have CK : Hid (∀ wd, Below wr.heap.size wr wd -> DPs w g P (.slice (some ⟨pb, 0, none⟩) P.length pc) hb (oo :: O2) (.slice (some ⟨ob, 0, none⟩) (O2.length + 1) oc) wd) := fun wd hb2 => HDx.out.any hb2
        clear hp
        go_upto_region 17 with fail
        clear c0 c1 ck
        obtain ⟨wd, hwd⟩ : ∃ wd : World, wd = wr.drew := ⟨_, rfl⟩
        have DX : Hid (DPs w g P (.slice (some ⟨pb, 0, none⟩) P.length pc) hb (oo :: O2) (.slice (some ⟨ob, 0, none⟩) (O2.length + 1) oc) wd) := CK.out wd (by rw [hwd]; exact (Below.refl _ _).drew)
        obtain ⟨c0, c1, -⟩ := DX.out.at HX.out
        rw [hk] at c1
        obtain ⟨tbk, tof, hta, tc⟩ := ts_cells (HG.out _ DX.out.bel) hkl
        obtain ⟨g0, -, -, -, -⟩ := gbx_cells DX.out.gb
        rw [hta] at g0
        rw [hnm] at tc
        clear hnm hk hkl
        refine wp_region_s (by kernel_rfl) (by kernel_rfl) wd hwd ?_
        clear hwd
        iterate 14 (refine st_yes (v := ?_) (by rfl) ?_ ?_; rotate_left; (· (go_simp; with_reducible rfl)); (try simp only [Act.put, List.setIfInBounds_toArray, List.set_cons_zero, List.set_cons_succ]))
        refine st_nil ?_
        clear c0 c1 g0 tc
        go_wp2
        go_roundw
        case rel => exact ⟨i + 1, _, _, _, by omega, by go_num, rfl, HNB.out, DX.out, HNX.out⟩
        case measure => simp [intOf]; omega
       ·have i0 : (0 : Int) < (i : Int) := by omega
        clear iz
        have e0 : (x.t.prod == -1) = true := by simpa using hp
        obtain ⟨c0, c1, -⟩ := HDx.out.at HX.out
        have HBL : Hid (blP (decide (0 < i)) = [32]) := by show _ = _; unfold blP; rw [if_pos (by simp; omega)]
        obtain ⟨k, hk⟩ : ∃ k : Nat, x.t.kind = (k : Int) := ⟨x.t.kind.toNat, by omega⟩
        have hkl : k < g.ts.length := by omega
        have klt : (k : Int) < (g.ts.length : Int) := by omega
        obtain ⟨nm, hnm⟩ : ∃ nm, g.ts.getD k ByteArray.empty = nm := ⟨_, rfl⟩
        have NMS : Hid (nm.size <= 32 /\ nm.data.toList = hdP g x.t) := ⟨by rw [<- hnm]; exact HN.out.1 _ (mem_getD hkl), by unfold hdP nmT; rw [if_pos hp, hk, Int.toNat_natCast, hnm]⟩
        rw [hk] at c1
        have z0 : ¬ 9223372036854775807 < sb1.size + 1 := by have := HZ.out; have := HS1.out; omega
        have z1 : ¬ 9223372036854775807 < sb1.size + 1 + 1 := by have := HZ.out; have := HS1.out; omega
        have z2 : ¬ 9223372036854775807 < sb1.size + nm.size := by have := HZ.out; have := HS1.out; have := NMS.out.1; omega
        have z3 : ¬ 9223372036854775807 < sb1.size + 1 + nm.size := by have := HZ.out; have := HS1.out; have := NMS.out.1; omega
        have z4 : ¬ 9223372036854775807 < sb1.size + 1 + 1 + nm.size := by have := HZ.out; have := HS1.out; have := NMS.out.1; omega
        have HNX : Hid (foP g false (P.take (i + 1)) ([], []) = ((oo :: O2), s1 ++ ([32] ++ hdP g x.t))) := by show _ = _; rw [HST.out]; unfold stP; dsimp only; rw [HDD.out, HE.out, if_pos hp, HBL.out]
        have HNB : Hid (((sb1 ++ (⟨#[32]⟩ : ByteArray)) ++ nm).data.toList = s1 ++ ([32] ++ hdP g x.t)) := by show _ = _; rw [catB, catB, HSB.out, NMS.out.2]; simp
        have CK : Hid (∀ wd, Below wr.heap.size wr wd -> DPs w g P (.slice (some ⟨pb, 0, none⟩) P.length pc) hb (oo :: O2) (.slice (some ⟨ob, 0, none⟩) (O2.length + 1) oc) wd) := fun wd hb2 => HDx.out.any hb2
        clear hp
        go_upto_region 17 with fail
        clear c0 c1 ck
        obtain ⟨wd, hwd⟩ : ∃ wd : World, wd = wr.drew := ⟨_, rfl⟩
        have DX : Hid (DPs w g P (.slice (some ⟨pb, 0, none⟩) P.length pc) hb (oo :: O2) (.slice (some ⟨ob, 0, none⟩) (O2.length + 1) oc) wd) := CK.out wd (by rw [hwd]; exact (Below.refl _ _).drew)
        obtain ⟨c0, c1, -⟩ := DX.out.at HX.out
        rw [hk] at c1
        obtain ⟨tbk, tof, hta, tc⟩ := ts_cells (HG.out _ DX.out.bel) hkl
        obtain ⟨g0, -, -, -, -⟩ := gbx_cells DX.out.gb
        rw [hta] at g0
        rw [hnm] at tc
        clear hnm hk hkl
        refine wp_region_s (by kernel_rfl) (by kernel_rfl) wd hwd ?_
        clear hwd
        iterate 14 (refine st_yes (v := ?_) (by rfl) ?_ ?_; rotate_left; (· (go_simp; with_reducible rfl)); (try simp only [Act.put, List.setIfInBounds_toArray, List.set_cons_zero, List.set_cons_succ]))
        refine st_nil ?_
        clear c0 c1 g0 tc
        go_wp2
        go_roundw
        case rel => exact ⟨i + 1, _, _, _, by omega, by go_num, rfl, HNB.out, DX.out, HNX.out⟩
        case measure => simp [intOf]; omega
      ·have hjx : Hid (x.t.prod = (x.t.prod.toNat : Int)) := by show _ = _; omega
       by_cases iz : i = 0
       ·have i0 : ¬ (0 : Int) < (i : Int) := by omega
        clear iz
        have e0 : (x.t.prod == -1) = false := by simp; omega
        obtain ⟨c0, c1, -⟩ := HDx.out.at HX.out
        have HBL : Hid (blP (decide (0 < i)) = []) := by show _ = _; unfold blP; rw [if_neg (by simp; omega)]
        obtain ⟨j, hjj⟩ : ∃ j, x.t.prod.toNat = j := ⟨_, rfl⟩
        rw [hjj] at hjx hq
        have hj : x.t.prod = (j : Int) := hjx.out
        have hjl : j < g.ps.length := by omega
        have jlt : (j : Int) < (g.ps.length : Int) := by omega
        obtain ⟨k, hk⟩ : ∃ k : Nat, (g.ps.getD j .none).left = (k : Int) := ⟨(g.ps.getD j .none).left.toNat, by omega⟩
        have hkl : k < g.ns.length := by omega
        have klt : (k : Int) < (g.ns.length : Int) := by omega
        obtain ⟨nm, hnm⟩ : ∃ nm, g.ns.getD k ByteArray.empty = nm := ⟨_, rfl⟩
        have NMS : Hid (nm.size <= 32 /\ 40 :: nm.data.toList = hdP g x.t) := ⟨by rw [<- hnm]; exact HN.out.2 _ (mem_getD hkl), by unfold hdP nmN; rw [if_neg (by omega), hj, Int.toNat_natCast, hk, Int.toNat_natCast, hnm]⟩
        rw [hj] at c0 e0
        have z0 : ¬ 9223372036854775807 < sb1.size + 1 := by have := HZ.out; have := HS1.out; omega
        have z1 : ¬ 9223372036854775807 < sb1.size + 1 + 1 := by have := HZ.out; have := HS1.out; omega
        have z2 : ¬ 9223372036854775807 < sb1.size + nm.size := by have := HZ.out; have := HS1.out; have := NMS.out.1; omega
        have z3 : ¬ 9223372036854775807 < sb1.size + 1 + nm.size := by have := HZ.out; have := HS1.out; have := NMS.out.1; omega
        have z4 : ¬ 9223372036854775807 < sb1.size + 1 + 1 + nm.size := by have := HZ.out; have := HS1.out; have := NMS.out.1; omega
        have HNX : Hid (foP g false (P.take (i + 1)) ([], []) = (dd :: (oo :: O2), s1 ++ ([] ++ hdP g x.t))) := by show _ = _; rw [HST.out]; unfold stP; dsimp only; rw [HDD.out, HE.out, if_neg (by omega), HBL.out]
        have HNB : Hid ((sb1 ++ (⟨#[40]⟩ : ByteArray) ++ nm).data.toList = s1 ++ ([] ++ hdP g x.t)) := by show _ = _; rw [catB, catB, HSB.out, <- NMS.out.2]; simp
        have CK : Hid (∀ wd, Below wr.heap.size wr wd -> DPs w g P (.slice (some ⟨pb, 0, none⟩) P.length pc) hb (oo :: O2) (.slice (some ⟨ob, 0, none⟩) (O2.length + 1) oc) wd) := fun wd hb2 => HDx.out.any hb2
        clear hp hj hjj
        go_upto_region 18 with fail
        clear c0 c1 ck
        obtain ⟨wd, hwd⟩ : ∃ wd : World, wd = wr.drew := ⟨_, rfl⟩
        have DX : Hid (DPs w g P (.slice (some ⟨pb, 0, none⟩) P.length pc) hb (oo :: O2) (.slice (some ⟨ob, 0, none⟩) (O2.length + 1) oc) wd) := CK.out wd (by rw [hwd]; exact (Below.refl _ _).drew)
        obtain ⟨c0, c1, -⟩ := DX.out.at HX.out
        rw [hjx.out] at c0
        obtain ⟨tbk, tof, hta, tc⟩ := ns_cells (HG.out _ DX.out.bel) hkl
        obtain ⟨sbk, sof, hpa, -, sc, -⟩ := ps_cells (HG.out _ DX.out.bel) hjl
        obtain ⟨-, g1, -, g3, -⟩ := gbx_cells DX.out.gb
        rw [hta] at g1
        rw [hpa] at g3
        rw [hk] at sc
        rw [hnm] at tc
        clear hnm hk hkl hjl
        refine wp_region_s (by kernel_rfl) (by kernel_rfl) wd hwd ?_
        clear hwd
        iterate 19 (refine st_yes (v := ?_) (by rfl) ?_ ?_; rotate_left; (· (go_simp; with_reducible rfl)); (try simp only [Act.put, List.setIfInBounds_toArray, List.set_cons_zero, List.set_cons_succ]))
        refine st_nil ?_
        clear c0 c1 g1 g3 sc tc
        have HLL : Hid ((List.reverse (oo :: O2)).length <= 100000000) := by have := HS1.out; show _ <= _; rw [List.length_reverse]; omega
        go_wp2_with (at_builtin; refine wpList_il_append_w rfl _ _ rfl (.slice (some ⟨ob, 0, none⟩) (O2.length + 1) oc) (List.reverse (oo :: O2)) rfl (DX.out.o.later (below_alloc _ _)) wd.heap.size 1 dd rfl (by simp) HLL.out ?_; intro a4 n4 c4 w4 ho4 hg4; have W4 : Hid (DPs w g P (.slice (some ⟨pb, 0, none⟩) P.length pc) hb (dd :: (oo :: O2)) (.slice a4 n4 c4) w4) := DX.out.push (below_alloc _ _) hg4 ho4; clear ho4 hg4)
        go_roundw
        case rel => exact ⟨i + 1, _, _, _, by omega, by go_num, rfl, HNB.out, W4.out, HNX.out⟩
        case measure => simp [intOf]; omega
       ·have i0 : (0 : Int) < (i : Int) := by omega
        clear iz
        have e0 : (x.t.prod == -1) = false := by simp; omega
        obtain ⟨c0, c1, -⟩ := HDx.out.at HX.out
        have HBL : Hid (blP (decide (0 < i)) = [32]) := by show _ = _; unfold blP; rw [if_pos (by simp; omega)]
        obtain ⟨j, hjj⟩ : ∃ j, x.t.prod.toNat = j := ⟨_, rfl⟩
        rw [hjj] at hjx hq
        have hj : x.t.prod = (j : Int) := hjx.out
        have hjl : j < g.ps.length := by omega
        have jlt : (j : Int) < (g.ps.length : Int) := by omega
        obtain ⟨k, hk⟩ : ∃ k : Nat, (g.ps.getD j .none).left = (k : Int) := ⟨(g.ps.getD j .none).left.toNat, by omega⟩
        have hkl : k < g.ns.length := by omega
        have klt : (k : Int) < (g.ns.length : Int) := by omega
        obtain ⟨nm, hnm⟩ : ∃ nm, g.ns.getD k ByteArray.empty = nm := ⟨_, rfl⟩
        have NMS : Hid (nm.size <= 32 /\ 40 :: nm.data.toList = hdP g x.t) := ⟨by rw [<- hnm]; exact HN.out.2 _ (mem_getD hkl), by unfold hdP nmN; rw [if_neg (by omega), hj, Int.toNat_natCast, hk, Int.toNat_natCast, hnm]⟩
        rw [hj] at c0 e0
        have z0 : ¬ 9223372036854775807 < sb1.size + 1 := by have := HZ.out; have := HS1.out; omega
        have z1 : ¬ 9223372036854775807 < sb1.size + 1 + 1 := by have := HZ.out; have := HS1.out; omega
        have z2 : ¬ 9223372036854775807 < sb1.size + nm.size := by have := HZ.out; have := HS1.out; have := NMS.out.1; omega
        have z3 : ¬ 9223372036854775807 < sb1.size + 1 + nm.size := by have := HZ.out; have := HS1.out; have := NMS.out.1; omega
        have z4 : ¬ 9223372036854775807 < sb1.size + 1 + 1 + nm.size := by have := HZ.out; have := HS1.out; have := NMS.out.1; omega
        have HNX : Hid (foP g false (P.take (i + 1)) ([], []) = (dd :: (oo :: O2), s1 ++ ([32] ++ hdP g x.t))) := by show _ = _; rw [HST.out]; unfold stP; dsimp only; rw [HDD.out, HE.out, if_neg (by omega), HBL.out]
        have HNB : Hid (((sb1 ++ (⟨#[32]⟩ : ByteArray)) ++ (⟨#[40]⟩ : ByteArray) ++ nm).data.toList = s1 ++ ([32] ++ hdP g x.t)) := by show _ = _; rw [catB, catB, catB, HSB.out, <- NMS.out.2]; simp
        have CK : Hid (∀ wd, Below wr.heap.size wr wd -> DPs w g P (.slice (some ⟨pb, 0, none⟩) P.length pc) hb (oo :: O2) (.slice (some ⟨ob, 0, none⟩) (O2.length + 1) oc) wd) := fun wd hb2 => HDx.out.any hb2
        clear hp hj hjj
        go_upto_region 18 with fail
        clear c0 c1 ck
        obtain ⟨wd, hwd⟩ : ∃ wd : World, wd = wr.drew := ⟨_, rfl⟩
        have DX : Hid (DPs w g P (.slice (some ⟨pb, 0, none⟩) P.length pc) hb (oo :: O2) (.slice (some ⟨ob, 0, none⟩) (O2.length + 1) oc) wd) := CK.out wd (by rw [hwd]; exact (Below.refl _ _).drew)
        obtain ⟨c0, c1, -⟩ := DX.out.at HX.out
        rw [hjx.out] at c0
        obtain ⟨tbk, tof, hta, tc⟩ := ns_cells (HG.out _ DX.out.bel) hkl
        obtain ⟨sbk, sof, hpa, -, sc, -⟩ := ps_cells (HG.out _ DX.out.bel) hjl
        obtain ⟨-, g1, -, g3, -⟩ := gbx_cells DX.out.gb
        rw [hta] at g1
        rw [hpa] at g3
        rw [hk] at sc
        rw [hnm] at tc
        clear hnm hk hkl hjl
        refine wp_region_s (by kernel_rfl) (by kernel_rfl) wd hwd ?_
        clear hwd
        iterate 19 (refine st_yes (v := ?_) (by rfl) ?_ ?_; rotate_left; (· (go_simp; with_reducible rfl)); (try simp only [Act.put, List.setIfInBounds_toArray, List.set_cons_zero, List.set_cons_succ]))
        refine st_nil ?_
        clear c0 c1 g1 g3 sc tc
        have HLL : Hid ((List.reverse (oo :: O2)).length <= 100000000) := by have := HS1.out; show _ <= _; rw [List.length_reverse]; omega
        go_wp2_with (at_builtin; refine wpList_il_append_w rfl _ _ rfl (.slice (some ⟨ob, 0, none⟩) (O2.length + 1) oc) (List.reverse (oo :: O2)) rfl (DX.out.o.later (below_alloc _ _)) wd.heap.size 1 dd rfl (by simp) HLL.out ?_; intro a4 n4 c4 w4 ho4 hg4; have W4 : Hid (DPs w g P (.slice (some ⟨pb, 0, none⟩) P.length pc) hb (dd :: (oo :: O2)) (.slice a4 n4 c4) w4) := DX.out.push (below_alloc _ _) hg4 ho4; clear ho4 hg4)
        go_roundw
        case rel => exact ⟨i + 1, _, _, _, by omega, by go_num, rfl, HNB.out, W4.out, HNX.out⟩
        case measure => simp [intOf]; omega
  ·obtain rfl : i = P.length := by omega
   have ilt : ¬ (P.length : Int) < (P.length : Int) := by omega
   have HT : Hid (clPr 0 O s = ([], tx)) := by show _ = _; rw [<- HFIN.out]; have := HFO.out; rw [List.take_length] at this; rw [this]
   clear HFIN HFO
   go_wp2
   go_loopw [5, 6] (fun vs vo wr => ∃ (O1 : List Int) (s1 : List UInt8) (sb1 : ByteArray), vs = .string sb1 /\ sb1.data.toList = s1 /\ DPs w g P (.slice (some ⟨pb, 0, none⟩) P.length pc) hb O1 vo wr /\ clPr 0 O1 s1 = ([], tx) /\ s1.length + O1.length <= 40000000) (fun _ v _ => lenP v)
   case atStart => exact ⟨O, s, _, rfl, HSB.out, HD.out, HT.out, HS0.out⟩
   case round =>
    clear HD HSB HT
    obtain ⟨O1, s1, sb1, rfl, hsb, hD, hcl, hs1⟩ := hrel
    have HZ : Hid (sb1.size = s1.length) := by show _ = _; rw [<- hsb, Array.length_toList]; rfl
    rcases O1 with _ | ⟨oo, O2⟩
    ·obtain ⟨va2, vc2, rfl⟩ := il_len hD.o
     change DPs w g P _ hb [] (.slice va2 0 vc2) wr at hD
     have HE : Hid (sb1 = ⟨tx.toArray⟩ /\ Below w.heap.size w wr) := ⟨bytes_eq (by rw [hsb]; simpa [clPr] using hcl), hD.bel⟩
     clear hD hcl hsb hs1 HZ
     go_wp2
     go_ret
     rw [HE.out.1]
     exact ⟨rfl, HE.out.2⟩
    ·obtain ⟨ob, oc, rfl, hoc, ck, hD2⟩ := hD.pop
     have hs2 := slice_toP ob oc (O2.length + 1) O2.length (by omega)
     simp only [List.length_cons] at hs1
     have hol : O2.length <= 40000000 := by omega
     have hd : 0 <= oo := by
      apply Classical.byContradiction
      intro e
      rw [clPr, if_neg e] at hcl
      simp at hcl
     have d1 : decide (0 <= oo) = true := decide_eq_true hd
     rw [clPr, if_pos hd] at hcl
     have HD2 : Hid (DPs w g P (.slice (some ⟨pb, 0, none⟩) P.length pc) hb O2 (.slice (some ⟨ob, 0, none⟩) O2.length oc) wr) := hD2
     have HCN : Hid (clPr 0 O2 (s1 ++ [41]) = ([], tx)) := hcl
     have HSN : Hid ((sb1 ++ (⟨#[41]⟩ : ByteArray)).data.toList = s1 ++ [41]) := by show _ = _; rw [catB, hsb]
     have HS2 : Hid ((s1 ++ [41]).length + O2.length <= 40000000) := by show _ <= _; simp only [List.length_append, List.length_cons, List.length_nil]; omega
     have z0 : ¬ 9223372036854775807 < sb1.size + 1 := by have := HZ.out; omega
     clear hD hD2 hcl hsb hs1 HZ
     go_wp2
     go_roundw
     case rel => exact ⟨O2, s1 ++ [41], _, rfl, HSN.out, HD2.out, HCN.out, HS2.out⟩
     case measure => simp [lenP]
end Go.Proofs.YtndbdliaidbocaaGreat
