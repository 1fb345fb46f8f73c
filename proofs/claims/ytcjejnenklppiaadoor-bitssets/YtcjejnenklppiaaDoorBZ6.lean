import Derived.Test.YtcjejnenklppiaaDoorBZ5
namespace Go.Proofs.YtcjejnenklppiaaDoor
set_option linter.unusedVariables false
open Go.RowKit Go.Shelf

theorem make_slB (c : Nat) (hc : c ≤ 1048576) (w : World) : (Instr.makeSlice 47 (.int .i64 0) (.int .i64 (c : Int))).run Tryd.prog w = .ok (.slice (some ⟨w.heap.size, 0, none⟩) 0 c) (w.alloc (.cells (madeCells #[.slice none 0 0] c) 42)) := by
  have h : (Tryd.prog.info? 42).map (fun i => (i.zero, i.size, i.bytes)) = some (some (.slice none 0 0), 1, 24) := by kernel_rfl
  cases e : Tryd.prog.info? 42 with
  | none => rw [e] at h; cases h
  | some i0 =>
    rw [e] at h
    simp at h
    obtain ⟨hz0, hz1, hz2⟩ := h
    have := run_makeSlice w 47 42 i0 (.slice none 0 0) Tryd.underlying47 e hz0 .i64 .i64 (0 : Int) (c : Int) (by omega) (by omega) (by rw [hz1]; simp; omega) (by rw [hz2]; omega) (by omega)
    rw [hz1] at this
    simpa [Value.cells] using this
theorem SLo.cap (w : World) (c : Nat) (hc : c ≤ 1048576) : SLo (w.alloc (.cells (madeCells #[.slice none 0 0] c) 42)) (.slice (some ⟨w.heap.size, 0, none⟩) 0 c) [] :=
  World.ownsRow_made w _ c (Nat.zero_le _) (by unfold maxLen; omega) (by rw [made_listB]; simp)
def slZ : SlV := (none, 0, 0)
/-- What components answers. -/
structure CmB (w : World) (Ns : List Nat) (n : Nat) (v : Value) (V : List SlV) (D : List (List Nat)) (w' : World) : Prop where
  ls : LsB w.heap.size v V D w'
  co : CoB Ns n D
  rise : ∀ T ∈ D, T.Pairwise (· < ·)
  from_ : ∃ C, ClB Ns n C ∧ (C.Pairwise fun T T' => T.getD 0 0 < T'.getD 0 0) ∧ D = orU C Ns n
  bel : Below w.heap.size w w'
theorem getD_mapV {P : List Nat} {V : List SlV} {i : Nat} {x : SlV} (h : (P.map fun a => V.getD a slZ)[i]? = some x) : ∃ a, P[i]? = some a ∧ x = V.getD a slZ := by
  rw [List.getElem?_map] at h
  cases e : P[i]? with
  | none => rw [e] at h; cases h
  | some a => rw [e] at h; simp at h; exact ⟨a, rfl, h.symm⟩
theorem getD_V {V : List SlV} {a : Nat} (h : a < V.length) : V[a]? = some (V.getD a slZ) := by
  rw [List.getD_eq_getElem?_getD, List.getElem?_eq_getElem h]
  rfl
theorem CsB.chosen {w w2 w' : World} {Ns : List Nat} {n : Nat} {v v' : Value} {V : List SlV} {C : List (List Nat)} {P : List Nat} (h : CsB w Ns n v V C w2) (hP : P = placeU (btU C Ns n) C.length) (hr : SLo w' v' (P.map fun a => V.getD a slZ)) (ho : ∀ j, v'.ownBlock = some j → w2.heap.size ≤ j) (hb : Below w2.heap.size w2 w') : CmB w Ns n v' (P.map fun a => V.getD a slZ) (orU C Ns n) w' := by
  obtain ⟨Q, hQ, _⟩ := place_is (btU C Ns n) C.length
  rw [← hP] at hQ
  have hlt : ∀ a ∈ P, a < V.length := fun a ha => by rw [h.ls.len]; exact hQ.lt a ha
  have mem : ∀ x ∈ P.map (fun a => V.getD a slZ), x ∈ V := fun x hx => by
    obtain ⟨a, ha, rfl⟩ := List.mem_map.1 hx
    exact List.mem_of_getElem? (getD_V (hlt a ha))
  have hor : orU C Ns n = P.map fun a => C.getD a [] := by rw [hP]; rfl
  have hinner : ∀ x ∈ V, ∀ j, (slV x).ownBlock = some j → j < w2.heap.size := fun x hx j hj => by
    obtain ⟨i, hi⟩ := List.getElem?_of_mem hx
    have hl : i < C.length := by rw [← h.ls.len]; exact (List.getElem?_eq_some_iff.1 hi).1
    exact (World.ownsRow.lt (h.ls.il i x _ hi (getD_someL hl)) j hj).2
  refine ⟨⟨hr, fun j hj => Nat.le_trans h.bel.size (ho j hj), by rw [hor]; simp, fun i x l hx hl => ?_, fun x hx => h.ls.lo x (mem x hx), fun x hx j hj q => ?_, fun i i' x x' hx hx' hii j hj => ?_⟩, h.cl.order, fun T hT => ?_, ⟨C, h.cl, h.hd, rfl⟩, h.bel.trans (hb.mono h.bel.size)⟩
  · obtain ⟨a, ha, rfl⟩ := getD_mapV hx
    rw [hor, List.getElem?_map, ha] at hl
    simp at hl
    subst hl
    have ha2 := hlt a (List.mem_of_getElem? ha)
    have := h.ls.il a _ _ (getD_V ha2) (getD_someL (by rw [← h.ls.len]; exact ha2))
    have hr2 := this.later hb
    simpa using hr2
  · have h1 := hinner x (mem x hx) j hj
    have h2 := ho j q
    omega
  · obtain ⟨a, ha, rfl⟩ := getD_mapV hx
    obtain ⟨a', ha', rfl⟩ := getD_mapV hx'
    refine h.ls.nd a a' _ _ (getD_V (hlt a (List.mem_of_getElem? ha))) (getD_V (hlt a' (List.mem_of_getElem? ha'))) (fun q => hii ?_) j hj
    subst q
    obtain ⟨h3, h4⟩ := List.getElem?_eq_some_iff.1 ha
    obtain ⟨h5, h6⟩ := List.getElem?_eq_some_iff.1 ha'
    exact (List.getElem_inj hQ.nd).1 (h4.trans h6.symm)
  · rw [hor] at hT
    obtain ⟨a, ha, rfl⟩ := List.mem_map.1 hT
    exact h.rise _ (getD_memL (hQ.lt a ha))
set_option maxRecDepth 100000 in
set_option maxHeartbeats 8000000 in
theorem components_SB {w : World} {rb n : Nat} {ks Ns : List Nat} (hR : RwB w rb n ks Ns) (hn : Ns.length = n) (hm : n ≤ 4096) (hT : TabB w) (hkin : ∀ k ∈ ks, k + 1 < w.heap.size) (c : Nat) :
    Calls Tryd.prog 55 #[.slice (some ⟨rb, 0, none⟩) n c] w fun e w' => ∃ v V D, e = .returned v ∧ CmB w Ns n v V D w' := by
  have HR : Hid (RwB w rb n ks Ns) := hR
  have HT : Hid (TabB w) := hT
  have HNL : Hid (Ns.length = n) := hn
  have CL : Hid (Calls Tryd.prog 63 #[.slice (some ⟨rb, 0, none⟩) n c] w fun e w' => ∃ v V C, e = .returned v ∧ CsB w Ns n v V C w') := classesOf_SB hR hn hm hT hkin c
  clear hR hT hn hkin
  go_enter Tryd.func55, Tryd.ntmps55
  go_wp2_with (go_at_call 63; refine CL.out.mono ?_)
  rintro e w2 ⟨v2, V, C, rfl, h2⟩
  obtain ⟨ca, cc, rfl, hread⟩ := h2.ls.read
  have hcnt := h2.cl.count
  have hCl : C.length ≤ 4096 := by omega
  have hmk := make_slB C.length (by omega) w2
  have H2 : Hid (CsB w Ns n (.slice ca C.length cc) V C w2) := h2
  have HRD : Hid (LrB w2 ca V C) := hread
  have A0 : Hid (SLo (w2.alloc (.cells (madeCells #[.slice none 0 0] C.length) 42)) (.slice (some ⟨w2.heap.size, 0, none⟩) 0 C.length) [] ∧ Below w2.heap.size w2 (w2.alloc (.cells (madeCells #[.slice none 0 0] C.length) 42))) := ⟨SLo.cap w2 _ (by omega), below_alloc w2 _⟩
  have BT : Hid (∀ w3, Below w2.heap.size w2 w3 → Calls Tryd.prog 64 #[.slice ca C.length cc, .slice (some ⟨rb, 0, none⟩) n c] w3 fun e w' => ∃ ob kso, e = .returned (.slice (some ⟨ob, 0, none⟩) C.length C.length) ∧ RwB w' ob C.length kso (btU C Ns n) ∧ Below w3.heap.size w3 w') := fun w3 b3 => by
    have b0 := H2.out.bel.trans (b3.mono H2.out.bel.size)
    refine between_SB (HR.out.later b0) HNL.out hm (HT.out.later b0) (HRD.out.later b3) hCl (fun T hT x hx => H2.out.cl.lt hT hx) (fun T hT => by have := hcnt.2.2 T hT; omega) (fun hn0 => ?_) cc c
    obtain ⟨T, hT, _⟩ := H2.out.cl.cov 0 hn0
    exact List.length_pos_of_mem hT
  have PL : Hid (∀ w4 ob kso, RwB w4 ob C.length kso (btU C Ns n) → Below w2.heap.size w2 w4 → Calls Tryd.prog 51 #[.slice (some ⟨ob, 0, none⟩) C.length C.length] w4 fun e w' => ∃ v, e = .returned v ∧ IL w' v (nI (placeU (btU C Ns n) C.length)) ∧ (∀ j, v.ownBlock = some j → w4.heap.size ≤ j) ∧ Below w4.heap.size w4 w') := fun w4 ob kso r4 b4 => by
    have b0 := H2.out.bel.trans (b4.mono H2.out.bel.size)
    exact place_SB r4 (by simp [btU]) hCl (HT.out.later b0) C.length
  obtain ⟨P, hP⟩ : ∃ P, placeU (btU C Ns n) C.length = P := ⟨_, rfl⟩
  have HP : Hid (P = placeU (btU C Ns n) C.length) := hP.symm
  have HPL : Hid ((∀ a ∈ P, a < C.length) ∧ P.length ≤ 4096) := by
    obtain ⟨Q, hQ, _⟩ := place_is (btU C Ns n) C.length
    rw [hP] at hQ
    exact ⟨hQ.lt, by have := nodup_le hQ.nd hQ.lt; omega⟩
  have HVL : Hid (V.length = C.length) := h2.ls.len
  rw [hP] at PL
  clear h2 hread hP CL hcnt
  go_wp2_with (first
    | (go_at_call 64; refine (BT.out _ A0.out.2).mono ?_; rintro e w3 ⟨ob, kso, rfl, r3, b3⟩; have W3 : Hid (RwB w3 ob C.length kso (btU C Ns n) ∧ SLo w3 (.slice (some ⟨w2.heap.size, 0, none⟩) 0 C.length) [] ∧ Below w2.heap.size w2 w3) := ⟨r3, A0.out.1.later b3, A0.out.2.trans (b3.mono A0.out.2.size)⟩; clear r3 b3)
    | (go_at_call 51; refine (PL.out _ _ _ W3.out.1 W3.out.2.2).mono ?_))
  rintro e w4 ⟨v4, rfl, i4, o4, b4⟩
  obtain ⟨pa, pc, rfl⟩ := il_lenB i4
  have W4 : Hid (IL w4 (.slice pa P.length pc) (nI P) ∧ SLo w4 (.slice (some ⟨w2.heap.size, 0, none⟩) 0 C.length) [] ∧ Below w2.heap.size w2 w4 ∧ ∀ j, (Value.slice pa P.length pc).ownBlock = some j → w2.heap.size < j) := ⟨i4, W3.out.2.1.later b4, W3.out.2.2.trans (b4.mono W3.out.2.2.size), fun j hj => by
    have h1 := o4 j hj
    have h2 := W3.out.2.1.lt w2.heap.size rfl
    omega⟩
  clear i4 o4 b4
  clear BT PL W3 A0 hmk
  have hPl := HPL.out.2
  go_wp2
  go_loopw [4, 17] (fun v z wr => ∃ (i : Nat), i ≤ P.length ∧ z = .int .i64 (i : Int) ∧ SLo wr v ((P.take i).map fun a => V.getD a slZ) ∧ (∀ j, v.ownBlock = some j → w2.heap.size ≤ j) ∧ Below w2.heap.size w2 wr ∧ IL wr (.slice pa P.length pc) (nI P) ∧ (∀ j, v.ownBlock = some j → (Value.slice pa P.length pc).ownBlock ≠ some j)) (fun _ z _ => P.length - (intOf z).toNat)
  case atStart => exact ⟨0, Nat.zero_le _, rfl, W4.out.2.1, fun j hj => by simp [Value.ownBlock] at hj; omega, W4.out.2.2.1, W4.out.1, fun j hj q => by
    have := W4.out.2.2.2 j q
    simp [Value.ownBlock] at hj
    omega⟩
  case round =>
    clear W4
    obtain ⟨i, hi, rfl, hS, hO, hB, hI, hN⟩ := hrel
    by_cases hil : i < P.length
    · have ilt : (i : Int) < (P.length : Int) := by omega
      obtain ⟨pb, pc', he, cp⟩ := IL.atB hI hil
      simp only [Value.slice.injEq, true_and] at he
      obtain ⟨rfl, rfl⟩ := he
      have ham := getD_memN hil
      have htk : (P.take (i + 1)).map (fun a => V.getD a slZ) = (P.take i).map (fun a => V.getD a slZ) ++ [V.getD (P.getD i 0) slZ] := by
        rw [List.take_add_one, List.getElem?_eq_getElem hil, List.getD_eq_getElem?_getD (l := P), List.getElem?_eq_getElem hil, List.map_append]
        rfl
      obtain ⟨a, ha⟩ : ∃ a, P.getD i 0 = a := ⟨_, rfl⟩
      rw [ha] at cp ham htk
      have hac := HPL.out.1 a ham
      have alt : (a : Int) < (C.length : Int) := by omega
      have haV : a < V.length := by rw [HVL.out]; exact hac
      obtain ⟨cb, co, hca, hcbl, hcell⟩ := HRD.out.row (fun q => by rw [q] at haV; simp at haV)
      have ck := cellL (hcell a _ (getD_V haV)) hB
      obtain ⟨xa, xl, xc, hx⟩ : ∃ xa xl xc, V.getD a slZ = (xa, xl, xc) := ⟨_, _, _, rfl⟩
      rw [hx] at ck htk
      simp only [slV] at ck
      have HS : Hid (SLo wr u4 ((P.take i).map fun a => V.getD a slZ) ∧ (∀ j, u4.ownBlock = some j → w2.heap.size ≤ j) ∧ Below w2.heap.size w2 wr ∧ IL wr (.slice (some ⟨pb, 0, none⟩) P.length pc) (nI P) ∧ (∀ j, u4.ownBlock = some j → (Value.slice (some ⟨pb, 0, none⟩) P.length pc).ownBlock ≠ some j)) := ⟨hS, hO, hB, hI, hN⟩
      have HLN : Hid (((P.take i).map fun a => V.getD a slZ).length ≤ 1000000000) := by show _ ≤ _; simp; omega
      have HTK : Hid ((P.take (i + 1)).map (fun a => V.getD a slZ) = (P.take i).map (fun a => V.getD a slZ) ++ [(xa, xl, xc)]) := htk
      subst hca
      clear hS hO hB hI hN hcell htk hx ham ha
      generalize (P.take i).map (fun a => V.getD a slZ) = A at *
      go_wp2_with (at_builtin; refine wpList_ro_append rkSl rfl _ _ rfl u4 A rfl (HS.out.1.later (below_alloc _ _)) wr.heap.size 1 (xa, xl, xc) rfl (one_cellB wr (xa, xl, xc) _) HLN.out ?_)
      intro a4 n4 c4 w5 ho4 hg4
      have W5 : Hid (SLo w5 (.slice a4 n4 c4) (A ++ [(xa, xl, xc)]) ∧ (∀ j, (Value.slice a4 n4 c4).ownBlock = some j → w2.heap.size ≤ j) ∧ Below w2.heap.size w2 w5 ∧ IL w5 (.slice (some ⟨pb, 0, none⟩) P.length pc) (nI P) ∧ (∀ j, (Value.slice a4 n4 c4).ownBlock = some j → (Value.slice (some ⟨pb, 0, none⟩) P.length pc).ownBlock ≠ some j)) := by
        have ba := below_alloc wr (.cells #[.slice xa xl xc] 42)
        have hz := HS.out.2.2.1.size
        have hz2 := ba.size
        refine ⟨ho4, hg4.own (by omega) HS.out.2.1, hg4.below (HS.out.2.2.1.trans (ba.mono hz)) (Nat.le_refl _) HS.out.2.1, ?_, fun j hj q => ?_⟩
        · refine HS.out.2.2.2.1.kept (fun j hj => ?_)
          have hl := (World.ownsRow.lt HS.out.2.2.2.1 j hj).2
          rw [hg4.grown.block j (by omega) (fun e => HS.out.2.2.2.2 j e.symm hj), ba.block j hl]
        · rcases hg4.moved with e | ⟨k, e, hk⟩
          · exact HS.out.2.2.2.2 j (by rw [← e]; exact hj) q
          · have hl := (World.ownsRow.lt HS.out.2.2.2.1 j q).2
            rw [e] at hj
            simp at hj
            omega
      clear ho4 hg4
      go_wp2
      go_roundw
      case rel => exact ⟨i + 1, by omega, by go_num, by rw [HTK.out]; exact W5.out.1, W5.out.2.1, W5.out.2.2.1, W5.out.2.2.2.1, W5.out.2.2.2.2⟩
      case measure => simp [intOf]; omega
    · obtain rfl : i = P.length := by omega
      have ilt : ¬ (P.length : Int) < (P.length : Int) := by omega
      rw [List.take_length] at hS
      have HF : Hid (CmB w Ns n u4 (P.map fun a => V.getD a slZ) (orU C Ns n) wr) := H2.out.chosen HP.out hS hO hB
      clear hS hO hB hI hN
      go_wp2
      go_ret
      first | exact ⟨_, _, _, rfl, HF.out⟩ | exact ⟨_, rfl, ⟨_, _, HF.out⟩⟩ | exact ⟨_, _, HF.out⟩
end Go.Proofs.YtcjejnenklppiaaDoor
