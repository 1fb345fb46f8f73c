import Derived.Test.YtlfiohdhcmmjbaaGreatDoorPBY0ToBY4
namespace Go.Proofs.YtlfiohdhcmmjbaaGreatDoor
set_option linter.unusedVariables false
open Go.RowKit Go.Shelf

theorem IL.rowB {w : World} {v : Value} {l : List Nat} (h : IL w v (nI l)) : ∃ a c, v = .slice a l.length c ∧ InRow w a (nI l) := by
  obtain ⟨a, c, rfl⟩ := il_lenB h
  refine ⟨a, c, rfl, fun hne => ?_⟩
  have hl : 0 < l.length := by
    cases l with
    | nil => exact absurd rfl hne
    | cons x l => simp
  obtain ⟨b, c', he, _⟩ := IL.atB h hl
  simp only [Value.slice.injEq, true_and] at he
  obtain ⟨rfl, rfl⟩ := he
  refine ⟨b, 0, rfl, (World.ownsRow.lt h b rfl).2, fun i hi => ?_⟩
  rw [nI_len] at hi
  obtain ⟨b', c2, he2, hc⟩ := IL.atB h hi
  simp only [Value.slice.injEq, true_and, Option.some.injEq, Addr.mk.injEq] at he2
  obtain ⟨⟨rfl, -⟩, -⟩ := he2
  rw [Nat.zero_add, hc]
  simp [nI, List.getD_eq_getElem?_getD, List.getElem?_eq_getElem hi]
/-- Lists of numbers, to be read. -/
structure LrB (w : World) (a : Option Addr) (V : List SlV) (L : List (List Nat)) : Prop where
  len : V.length = L.length
  row : V ≠ [] → ∃ b off, a = some ⟨b, off, none⟩ ∧ b < w.heap.size ∧ ∀ (i : Nat) (x : SlV), V[i]? = some x → w.cell? ⟨b, off + i, none⟩ = some (slV x)
  il : ∀ (i : Nat) (x : SlV) (l : List Nat), V[i]? = some x → L[i]? = some l → x.2.1 = l.length ∧ InRow w x.1 (nI l)
theorem cellL {w w' : World} {p : Addr} {v : Value} (h : w.cell? p = some v) (hb : Below w.heap.size w w') : w'.cell? p = some v := by
  have hl : p.block < w.heap.size := World.block_lt_of_cell? w _ h
  rw [← h]
  unfold World.cell?
  rw [hb.block _ hl]
theorem belN (w : World) (k : Nat) : Below w.heap.size w (w.drewN k) := ⟨rfl, rfl, rfl, Nat.le_refl _, fun _ _ => rfl⟩
theorem LrB.later {w w' : World} {a : Option Addr} {V : List SlV} {L : List (List Nat)} (h : LrB w a V L) (hb : Below w.heap.size w w') : LrB w' a V L := by
  refine ⟨h.len, fun hV => ?_, fun i x l hx hl => ⟨(h.il i x l hx hl).1, (h.il i x l hx hl).2.later hb⟩⟩
  obtain ⟨b, off, e, hl, hc⟩ := h.row hV
  refine ⟨b, off, e, Nat.lt_of_lt_of_le hl hb.size, fun i x hx => ?_⟩
  exact cellL (hc i x hx) hb
theorem LrB.at {w : World} {a : Option Addr} {V : List SlV} {L : List (List Nat)} (h : LrB w a V L) {i : Nat} (hi : i < L.length) : ∃ b off xa xc, a = some ⟨b, off, none⟩ ∧ b < w.heap.size ∧ w.cell? ⟨b, off + i, none⟩ = some (.slice xa (L.getD i []).length xc) ∧ InRow w xa (nI (L.getD i [])) := by
  have hv : i < V.length := by rw [h.len]; exact hi
  obtain ⟨b, off, e, hl, hc⟩ := h.row (fun q => by rw [q] at hv; simp at hv)
  have h1 := hc i _ (List.getElem?_eq_getElem hv)
  have h2 := h.il i _ _ (List.getElem?_eq_getElem hv) (getD_someL hi)
  refine ⟨b, off, V[i].1, V[i].2.2, e, hl, ?_, h2.2⟩
  rw [h1, slV, h2.1]
theorem LsB.read {z : Nat} {v : Value} {V : List SlV} {L : List (List Nat)} {w : World} (h : LsB z v V L w) : ∃ a c, v = .slice a L.length c ∧ LrB w a V L := by
  obtain ⟨a, c, rfl, _⟩ := h.row.len
  refine ⟨a, c, by rw [h.len], h.len, fun hV => ?_, fun i x l hx hl => ?_⟩
  · have h0 : 0 < V.length := List.length_pos_iff.2 hV
    obtain ⟨b, c', he, _, _⟩ := h.row.cell rkSl.len h0
    simp only [Value.slice.injEq, true_and] at he
    obtain ⟨rfl, rfl⟩ := he
    refine ⟨b, 0, rfl, h.row.lt b rfl, fun i x hx => ?_⟩
    obtain ⟨hi, hv⟩ := List.getElem?_eq_some_iff.1 hx
    obtain ⟨b', c2, he2, _, hc⟩ := h.row.cell rkSl.len hi
    simp only [Value.slice.injEq, true_and, Option.some.injEq, Addr.mk.injEq] at he2
    obtain ⟨⟨rfl, -⟩, -⟩ := he2
    have := hc 0 (by decide)
    rw [Nat.mul_one, Nat.add_zero] at this
    rw [Nat.zero_add, this, hv]
    rfl
  · obtain ⟨a', c', he, hr⟩ := (h.il i x l hx hl).rowB
    simp only [slV, Value.slice.injEq] at he
    exact ⟨he.2.1, by rw [he.1]; exact hr⟩
/-- Edges between classes, under way. -/
structure BtS (w : World) (c : Nat) (H Ms : List Nat) (wr : World) : Prop where
  kb : KbB wr w.heap.size H
  rw : RwB wr (w.heap.size + 1) c (ksE (w.heap.size + 1) c) Ms
  len : Ms.length = c
  bel : Below w.heap.size w wr
theorem BtS.any {w wr w' : World} {c : Nat} {H Ms : List Nat} (h : BtS w c H Ms wr) (hb : Below wr.heap.size wr w') : BtS w c H Ms w' := ⟨h.kb.later hb, h.rw.later hb, h.len, h.bel.trans (hb.mono h.bel.size)⟩
theorem BtS.turn {w wr w' : World} {c y k M : Nat} {H Ms : List Nat} (h : BtS w c H Ms wr) (hk : (ksE (w.heap.size + 1) c)[y]? = some k) (hs : SB w' k c M) (hf : FrB (· = k) wr w') : BtS w c H (Ms.set y M) w' := by
  have hy : y < c := by have := (List.getElem?_eq_some_iff.1 hk).1; rwa [ksE_len] at this
  rw [ksE_get hy] at hk
  have hk2 := Option.some.inj hk
  refine ⟨h.kb.frB hf (by omega), h.rw.turn (by rw [ksE_get hy]; exact hk) hs hf, by rw [List.length_set]; exact h.len, hf.below h.bel h.bel.size (fun j q => ?_)⟩
  have q2 : j = k := q
  omega
theorem hid_get {C : List (List Nat)} {i : Nat} (h : i < C.length) : C.drop i = C.getD i [] :: C.drop (i + 1) := by
  rw [List.drop_eq_getElem_cons h, List.getD_eq_getElem?_getD, List.getElem?_eq_getElem h]
  rfl
theorem nat_get {l : List Nat} {i : Nat} (h : i < l.length) : l.drop i = l.getD i 0 :: l.drop (i + 1) := by
  rw [List.drop_eq_getElem_cons h, List.getD_eq_getElem?_getD, List.getElem?_eq_getElem h]
  rfl
theorem getD_memN {l : List Nat} {i : Nat} (h : i < l.length) : l.getD i 0 ∈ l := by
  rw [List.getD_eq_getElem?_getD, List.getElem?_eq_getElem h]
  exact List.getElem_mem h
theorem getD_memL {l : List (List Nat)} {i : Nat} (h : i < l.length) : l.getD i [] ∈ l := by
  rw [List.getD_eq_getElem?_getD, List.getElem?_eq_getElem h]
  exact List.getElem_mem h
theorem take_memB {l : List Nat} {q y : Nat} (h : q < l.length) : y ∈ l.take (q + 1) ↔ y ∈ l.take q ∨ y = l.getD q 0 := by
  rw [List.take_add_one, List.getElem?_eq_getElem h, List.getD_eq_getElem?_getD, List.getElem?_eq_getElem h, List.mem_append]
  simp only [Option.toList, List.mem_singleton, Option.getD_some]
set_option maxRecDepth 100000 in
set_option maxHeartbeats 8000000 in
theorem between_SB {w : World} {rb n : Nat} {ks Ns : List Nat} {ca : Option Addr} {V : List SlV} {C : List (List Nat)} (hR : RwB w rb n ks Ns) (hn : Ns.length = n) (hm : n ≤ 4096) (hT : TabB w) (hC : LrB w ca V C) (hcl : C.length ≤ 4096) (hlt : ∀ T ∈ C, ∀ x ∈ T, x < n) (hTl : ∀ T ∈ C, T.length ≤ 4096) (hpos : 0 < n → 0 < C.length) (cc c : Nat) :
    Calls Tryz.prog 158 #[.slice ca C.length cc, .slice (some ⟨rb, 0, none⟩) n c] w fun e w' => ∃ ob kso, e = .returned (.slice (some ⟨ob, 0, none⟩) C.length C.length) ∧ RwB w' ob C.length kso (btU C Ns n) ∧ Below w.heap.size w w' := by
  have HR : Hid (RwB w rb n ks Ns) := hR
  have HT : Hid (TabB w) := hT
  have HNL : Hid (Ns.length = n) := hn
  have HC : Hid (LrB w ca V C) := hC
  have HLT : Hid (∀ T ∈ C, ∀ x ∈ T, x < n) := hlt
  have HTL : Hid (∀ T ∈ C, T.length ≤ 4096) := hTl
  have HPO : Hid (0 < n → 0 < C.length) := hpos
  have hmk := make_iB n (by omega)
  obtain ⟨H, hH⟩ : ∃ H, hmC C 0 (List.replicate n 0) = H := ⟨_, rfl⟩
  have HHL : Hid (H.length = n) := by show _ = _; rw [← hH, hmC_len, List.length_replicate]
  have HHB : Hid (∀ x, x < n → H.getD x 0 < C.length) := fun x hx => by
    have h1 : H.getD x 0 ∈ H := getD_memN (by rw [HHL.out]; exact hx)
    rw [← hH] at h1 ⊢
    exact hmC_lt (c := C.length) C 0 _ (by omega) (fun y hy => by rw [List.eq_of_mem_replicate hy]; exact hpos (by omega)) _ h1
  have HBU : Hid (btU C Ns n = (List.range C.length).map fun a => mkN (btF H Ns n a) C.length) := by show _ = _; unfold btU; rw [hH]
  have HH0 : Hid (hmC C 0 (List.replicate n 0) = H) := hH
  have K0 : Hid (KbB (w.alloc (.cells (madeCells #[.int .i64 0] n) 3)) w.heap.size (List.replicate n 0) ∧ Below w.heap.size w (w.alloc (.cells (madeCells #[.int .i64 0] n) 3)) ∧ (w.alloc (.cells (madeCells #[.int .i64 0] n) 3)).heap.size = w.heap.size + 1) := ⟨KbB.made w n, below_alloc w _, by simp⟩
  clear hR hT hn hC hlt hTl hpos hH
  go_enter Tryz.func158, Tryz.ntmps158
  go_wp2
  clear hmk
  go_loopw [20] (fun z wr => ∃ (i : Nat) (K : List Nat), i ≤ C.length ∧ z = .int .i64 (i : Int) ∧ KbB wr w.heap.size K ∧ K.length = n ∧ Below w.heap.size w wr ∧ wr.heap.size = w.heap.size + 1 ∧ hmC (C.drop i) i K = H) (fun z _ => C.length - (intOf z).toNat)
  case atStart => exact ⟨0, _, Nat.zero_le _, rfl, K0.out.1, by simp, K0.out.2.1, K0.out.2.2, HH0.out⟩
  case round =>
    clear K0 HH0
    obtain ⟨i, K, hi, rfl, hK, hKl, hB, hsz, hF⟩ := hrel
    by_cases hil : i < C.length
    · have ilt : (i : Int) < (C.length : Int) := by omega
      obtain ⟨b, off, xa, xc, hca, hbl, ck0, hrow⟩ := HC.out.at hil
      have ck := cellL ck0 hB
      clear ck0
      have hTm := getD_memL hil
      have hdr := hid_get hil
      obtain ⟨T, hTe⟩ : ∃ T, C.getD i [] = T := ⟨_, rfl⟩
      rw [hTe] at ck hrow hTm hdr
      rw [hdr] at hF
      have hTn := HTL.out T hTm
      have hTx := HLT.out T hTm
      have HF : Hid (hmC (C.drop (i + 1)) (i + 1) (hmL i T K) = H) := hF
      have HK : Hid (KbB wr w.heap.size K ∧ K.length = n ∧ Below w.heap.size w wr ∧ wr.heap.size = w.heap.size + 1) := ⟨hK, hKl, hB, hsz⟩
      have HROW : Hid (InRow w xa (nI T)) := hrow
      have HTX : Hid (∀ x ∈ T, x < n) := hTx
      subst hca
      clear hF hK hKl hB hsz hrow hTx hTm hdr hTe
      obtain ⟨wz, rfl⟩ : ∃ wz : World, wz = wr := ⟨_, rfl⟩
      go_wp2
      go_loopw [27] (fun z wr => ∃ (q : Nat) (K : List Nat), q ≤ T.length ∧ z = .int .i64 (q : Int) ∧ KbB wr w.heap.size K ∧ K.length = n ∧ Below w.heap.size w wr ∧ wr.heap.size = w.heap.size + 1 ∧ hmC (C.drop (i + 1)) (i + 1) (hmL i (T.drop q) K) = H) (fun z _ => T.length - (intOf z).toNat)
      case atStart => exact ⟨0, K, Nat.zero_le _, rfl, HK.out.1, HK.out.2.1, HK.out.2.2.1, HK.out.2.2.2, HF.out⟩
      case round =>
        clear HK HF ck
        obtain ⟨q, K2, hq, rfl, hK, hKl, hB, hsz, hF⟩ := hrel
        by_cases hql : q < T.length
        · have qlt : (q : Int) < (T.length : Int) := by omega
          obtain ⟨rb2, ro2, hxa, hrl2, cq⟩ := inrow_at (HROW.out.later hB) (i := q) (x := T.getD q 0) (by rw [List.getD_eq_getElem?_getD, List.getElem?_eq_getElem hql]; rfl)
          have hxm := getD_memN hql
          have hdq := nat_get hql
          obtain ⟨x, hx⟩ : ∃ x, T.getD q 0 = x := ⟨_, rfl⟩
          rw [hx] at cq hxm hdq
          rw [hdq] at hF
          have hxn := HTX.out x hxm
          have xlt : (x : Int) < (n : Int) := by omega
          have cx := hK.cell (i := x) (by rw [hKl]; exact hxn)
          have fx := hK.free x
          obtain ⟨kx, hkx⟩ : ∃ kx, K2.getD x 0 = kx := ⟨_, rfl⟩
          rw [hkx] at cx
          have HN : Hid (KbB (wr.setCell ⟨w.heap.size, x, none⟩ (.int .i64 (i : Int))) w.heap.size (K2.set x i) ∧ (K2.set x i).length = n ∧ Below w.heap.size w (wr.setCell ⟨w.heap.size, x, none⟩ (.int .i64 (i : Int))) ∧ (wr.setCell ⟨w.heap.size, x, none⟩ (.int .i64 (i : Int))).heap.size = w.heap.size + 1 ∧ hmC (C.drop (i + 1)) (i + 1) (hmL i (T.drop (q + 1)) (K2.set x i)) = H) := by
            refine ⟨hK.set x i, by rw [List.length_set]; exact hKl, hB.setCell (p := ⟨w.heap.size, x, none⟩) (Nat.le_refl _) _, by simp [hsz], hF⟩
          subst hxa
          clear hK hKl hB hsz hF hdq hx hxm hkx
          go_wp2
          go_roundw
          case rel => exact ⟨q + 1, _, by omega, by go_num, HN.out.1, HN.out.2.1, HN.out.2.2.1, HN.out.2.2.2.1, HN.out.2.2.2.2⟩
          case measure => simp [intOf]; omega
        · obtain rfl : q = T.length := by omega
          have qlt : ¬ (T.length : Int) < (T.length : Int) := by omega
          rw [List.drop_length] at hF
          have HN : Hid (KbB wr w.heap.size K2 ∧ K2.length = n ∧ Below w.heap.size w wr ∧ wr.heap.size = w.heap.size + 1 ∧ hmC (C.drop (i + 1)) (i + 1) K2 = H) := ⟨hK, hKl, hB, hsz, hF⟩
          clear hK hKl hB hsz hF
          go_wp2
          go_roundw
          case rel => exact ⟨i + 1, _, by omega, by go_num, HN.out.1, HN.out.2.1, HN.out.2.2.1, HN.out.2.2.2.1, HN.out.2.2.2.2⟩
          case measure => simp [intOf]; omega
    · obtain rfl : i = C.length := by omega
      have ilt : ¬ (C.length : Int) < (C.length : Int) := by omega
      rw [List.drop_length] at hF
      have hF' : K = H := hF
      subst hF'
      have HK : Hid (KbB wr w.heap.size K ∧ Below w.heap.size w wr ∧ wr.heap.size = w.heap.size + 1) := ⟨hK, hB, hsz⟩
      have HEM : Hid (Calls Tryz.prog 134 #[.int .i64 (C.length : Int), .int .i64 (C.length : Int)] wr fun e w' => e = .returned (.slice (some ⟨w.heap.size + 1, 0, none⟩) C.length C.length) ∧ RwB w' (w.heap.size + 1) C.length (ksE (w.heap.size + 1) C.length) (List.replicate C.length 0) ∧ Below wr.heap.size wr w') := by
        have := empties_SB C.length C.length hcl hcl wr
        rw [hsz] at this
        rw [hsz]
        exact this
      clear hK hKl hB hsz hF
      go_wp2_with (go_at_call 134; refine HEM.out.mono ?_; rintro e w1 ⟨rfl, s1, b1⟩; have S1 : Hid (BtS w C.length K (List.replicate C.length 0) w1) := ⟨HK.out.1.later b1, s1, by simp, HK.out.2.1.trans (b1.mono HK.out.2.1.size)⟩; clear s1 b1)
      clear HEM HK
      go_loopw [44] (fun z wr => ∃ (i : Nat) (Ms : List Nat), i ≤ n ∧ z = .int .i64 (i : Int) ∧ BtS w C.length K Ms wr ∧ ∀ a b, a < C.length → b < C.length → ((Ms.getD a 0).testBit b = true ↔ a ≠ b ∧ ∃ x y, x < i ∧ K.getD x 0 = a ∧ K.getD y 0 = b ∧ EdB Ns n x y)) (fun z _ => n - (intOf z).toNat)
      case atStart => exact ⟨0, _, Nat.zero_le _, rfl, S1.out, fun a b ha _ => by
        rw [repl_get]
        simp⟩
      case round =>
        clear S1
        obtain ⟨x, Ms, hx, rfl, hU, hbit⟩ := hrel
        by_cases hxl : x < n
        · have xlt : (x : Int) < (n : Int) := by omega
          obtain ⟨k, hk, hsk⟩ := (HR.out.later hU.bel).at (show x < Ns.length by rw [HNL.out]; exact hxl)
          have ck := (HR.out.later hU.bel).cell hk
          have LI : Hid (Calls Tryz.prog 138 #[.pointer (some ⟨k + 1, 0, none⟩)] wr fun e w' => ∃ v, e = .returned v ∧ LBs wr (bitsL (Ns.getD x 0) n) v w') := list_SB hsk (HT.out.later hU.bel)
          have HU : Hid (BtS w C.length K Ms wr) := hU
          have HBI : Hid (∀ a b, a < C.length → b < C.length → ((Ms.getD a 0).testBit b = true ↔ a ≠ b ∧ ∃ x' y, x' < x ∧ K.getD x' 0 = a ∧ K.getD y 0 = b ∧ EdB Ns n x' y)) := hbit
          obtain ⟨l, hl⟩ : ∃ l, bitsU (Ns.getD x 0) n = l := ⟨_, rfl⟩
          have HLM : Hid (∀ y, y ∈ l ↔ y < n ∧ (Ns.getD x 0).testBit y = true) := fun y => by rw [← hl]; exact bitsU_mem
          rw [bitsL_nI, hl] at LI
          have HLL : Hid (l.length ≤ 4096) := by
            show _ ≤ _
            rw [← hl, bitsU_len]
            exact Nat.le_trans (popB_le _ _) hm
          have HKL : Hid (∀ y, y < C.length → w.heap.size + 1 + 1 + 2 * y + 1 < wr.heap.size) := fun y hy => by
            obtain ⟨k3, hk3, hs3⟩ := hU.rw.at (show y < Ms.length by rw [hU.len]; exact hy)
            rw [ksE_get hy] at hk3
            have := Option.some.inj hk3
            have := hs3.size
            omega
          clear hU hbit hsk hk hl
          obtain ⟨wz, rfl⟩ : ∃ wz : World, wz = wr := ⟨_, rfl⟩
          go_wp2_with (go_at_call 138; refine LI.out.mono ?_; rintro e w2 ⟨v, rfl, l2⟩; obtain ⟨la, lc, rfl⟩ := il_lenB l2.il; have L2 : Hid (BtS w C.length K Ms w2 ∧ IL w2 (.slice la l.length lc) (nI l) ∧ ∀ j, (Value.slice la l.length lc).ownBlock = some j → wz.heap.size ≤ j) := ⟨HU.out.any (l2.bel), l2.il, l2.own⟩; clear l2 ck)
          clear LI
          have hLL := HLL.out
          go_loopw [52] (fun z wr => ∃ (q : Nat) (Ms : List Nat), q ≤ l.length ∧ z = .int .i64 (q : Int) ∧ BtS w C.length K Ms wr ∧ IL wr (.slice la l.length lc) (nI l) ∧ ∀ a b, a < C.length → b < C.length → ((Ms.getD a 0).testBit b = true ↔ a ≠ b ∧ ∃ x' y, (x' < x ∨ x' = x ∧ y ∈ l.take q) ∧ K.getD x' 0 = a ∧ K.getD y 0 = b ∧ EdB Ns n x' y)) (fun z _ => l.length - (intOf z).toNat)
          case atStart => exact ⟨0, Ms, Nat.zero_le _, rfl, L2.out.1, L2.out.2.1, fun a b ha hb => by rw [HBI.out a b ha hb]; simp⟩
          case round =>
            have HOW : Hid (∀ j, (Value.slice la l.length lc).ownBlock = some j → wz.heap.size ≤ j) := L2.out.2.2
            clear L2 HBI HU
            obtain ⟨q, Ms2, hq, rfl, hU2, hil, hbit⟩ := hrel
            by_cases hql : q < l.length
            · have qlt : (q : Int) < (l.length : Int) := by omega
              obtain ⟨lb, lc', he, cl⟩ := IL.atB hil hql
              simp only [Value.slice.injEq, true_and] at he
              obtain ⟨rfl, rfl⟩ := he
              obtain ⟨y, hy⟩ : ∃ y, l.getD q 0 = y := ⟨_, rfl⟩
              rw [hy] at cl
              have hym : y ∈ l := by rw [← hy]; exact getD_memN hql
              obtain ⟨hyn, hyb⟩ := (HLM.out y).1 hym
              have ylt : (y : Int) < (n : Int) := by omega
              have hax := HHB.out x hxl
              have hay := HHB.out y hyn
              have cx := hU2.kb.cell (i := x) (by rw [HHL.out]; exact hxl)
              have cy := hU2.kb.cell (i := y) (by rw [HHL.out]; exact hyn)
              have HXK : Hid (∃ a, K.getD x 0 = a) := ⟨_, rfl⟩
              obtain ⟨a, hae⟩ := HXK.out
              obtain ⟨b2, hbe⟩ : ∃ b2, K.getD y 0 = b2 := ⟨_, rfl⟩
              rw [hae] at cx hax
              rw [hbe] at cy hay
              have htm : ∀ z, z ∈ l.take (q + 1) ↔ z ∈ l.take q ∨ z = y := fun z => by rw [take_memB hql, hy]
              have ee : EdB Ns n x y := ⟨hxl, hyn, hyb⟩
              by_cases hab : a = b2
              · have HB2 : Hid (BtS w C.length K Ms2 wr ∧ IL wr (.slice (some ⟨lb, 0, none⟩) l.length lc) (nI l) ∧ ∀ a b, a < C.length → b < C.length → ((Ms2.getD a 0).testBit b = true ↔ a ≠ b ∧ ∃ x' y, (x' < x ∨ x' = x ∧ y ∈ l.take (q + 1)) ∧ K.getD x' 0 = a ∧ K.getD y 0 = b ∧ EdB Ns n x' y)) := ⟨hU2, hil, fun a' b' ha' hb' => by
                  rw [hbit a' b' ha' hb']
                  constructor
                  · rintro ⟨h1, x', y', h2, h3⟩
                    exact ⟨h1, x', y', h2.imp id (fun z => ⟨z.1, (htm y').2 (.inl z.2)⟩), h3⟩
                  · rintro ⟨h1, x', y', h2, h3, h4, h5⟩
                    rcases h2 with h2 | ⟨rfl, h2⟩
                    · exact ⟨h1, x', y', .inl h2, h3, h4, h5⟩
                    · rcases (htm y').1 h2 with h2 | rfl
                      · exact ⟨h1, x', y', .inr ⟨rfl, h2⟩, h3, h4, h5⟩
                      · exfalso
                        apply h1
                        rw [← h3, ← h4, hae, hbe, hab]⟩
                subst hab
                clear hU2 hil hbit hym hyb hy hae hbe htm ee
                go_wp2
                go_quiet (fail)
                go_wp2
                go_roundw
                case rel => exact ⟨q + 1, Ms2, by omega, by go_num, HB2.out.1.any (belN _ _), HB2.out.2.1.later (belN _ _), HB2.out.2.2⟩
                case measure => simp [intOf]; omega
              · have abn : ((a : Int) == (b2 : Int)) = false := by
                  rw [beq_eq_false_iff_ne]
                  omega
                have hAB : a ≠ b2 := hab
                have HB2 : Hid (∀ a' b', a' < C.length → b' < C.length → (((Ms2.set a (addN (Ms2.getD a 0) b2)).getD a' 0).testBit b' = true ↔ a' ≠ b' ∧ ∃ x' y, (x' < x ∨ x' = x ∧ y ∈ l.take (q + 1)) ∧ K.getD x' 0 = a' ∧ K.getD y 0 = b' ∧ EdB Ns n x' y)) := fun a' b' ha' hb' => by
                  have hs : ((Ms2.set a (addN (Ms2.getD a 0) b2)).getD a' 0).testBit b' = true ↔ (Ms2.getD a' 0).testBit b' = true ∨ a = a' ∧ b2 = b' := by
                    rw [getD_setV]
                    by_cases e : a = a'
                    · subst e
                      rw [if_pos ⟨rfl, by rw [hU2.len]; exact ha'⟩, addN_bit, Bool.or_eq_true, decide_eq_true_iff]
                      simp
                    · rw [if_neg (fun z => e z.1)]
                      simp [e]
                  rw [hs, hbit a' b' ha' hb']
                  constructor
                  · rintro (⟨h1, x', y', h2, h3⟩ | ⟨rfl, rfl⟩)
                    · exact ⟨h1, x', y', h2.imp id (fun z => ⟨z.1, (htm y').2 (.inl z.2)⟩), h3⟩
                    · exact ⟨hAB, x, y, .inr ⟨rfl, (htm y).2 (.inr rfl)⟩, hae, hbe, ee⟩
                  · rintro ⟨h1, x', y', h2, h3, h4, h5⟩
                    rcases h2 with h2 | ⟨rfl, h2⟩
                    · exact .inl ⟨h1, x', y', .inl h2, h3, h4, h5⟩
                    · rcases (htm y').1 h2 with h2 | rfl
                      · exact .inl ⟨h1, x', y', .inr ⟨rfl, h2⟩, h3, h4, h5⟩
                      · exact .inr ⟨hae.symm.trans h3, hbe.symm.trans h4⟩
                have HU3 : Hid (BtS w C.length K Ms2 wr ∧ IL wr (.slice (some ⟨lb, 0, none⟩) l.length lc) (nI l)) := ⟨hU2, hil⟩
                have HCX : Hid (∀ w', Below wr.heap.size wr w' → w'.cell? ⟨w.heap.size, x, none⟩ = some (.int .i64 (a : Int)) ∧ w'.cell? ⟨w.heap.size, y, none⟩ = some (.int .i64 (b2 : Int))) := fun w' b' => ⟨cellL cx b', cellL cy b'⟩
                have AD : Hid (∀ wd, Below wr.heap.size wr wd → ∃ k2, wd.cell? ⟨w.heap.size + 1, a, none⟩ = some (.pointer (some ⟨k2 + 1, 0, none⟩)) ∧ Calls Tryz.prog 136 #[.pointer (some ⟨k2 + 1, 0, none⟩), .int .i64 (b2 : Int)] wd fun e w'' => ∃ bv, e = .returned (.bool bv) ∧ BtS w C.length K (Ms2.set a (addN (Ms2.getD a 0) b2)) w'' ∧ IL w'' (.slice (some ⟨lb, 0, none⟩) l.length lc) (nI l)) := fun wd bd => by
                  have U3 := HU3.out.1.any bd
                  have I3 := HU3.out.2.later bd
                  obtain ⟨k2, hk2, hs2⟩ := U3.rw.at (show a < Ms2.length by rw [U3.len]; exact hax)
                  refine ⟨k2, U3.rw.cell hk2, (add_SB hs2 (b2 : Int)).mono fun e w'' ⟨q1, q2, q3⟩ => ?_⟩
                  have e2 : addX (Ms2.getD a 0) C.length (b2 : Int) = addN (Ms2.getD a 0) b2 := by unfold addX; rw [if_pos ⟨by omega, by omega⟩]; rfl
                  rw [e2] at q2
                  refine ⟨_, q1, U3.turn hk2 q2 q3, I3.kept (fun j hj => q3.block j (World.ownsRow.lt I3 j hj).2 (fun z => ?_))⟩
                  have z2 : j = k2 := z
                  have h1 := HOW.out j hj
                  rw [ksE_get hax] at hk2
                  have h2 := Option.some.inj hk2
                  have h3 := HKL.out a hax
                  omega
                have alt : (a : Int) < (C.length : Int) := by omega
                clear hU2 hil hbit hym hyb hy hae hbe htm ee hab
                go_wp2
                go_quiet (fail)
                have BQ : Hid (Below wr.heap.size wr (wr.drewN nq)) := belN wr nq
                generalize wr.drewN nq = wq at *
                go_wp2
                obtain ⟨wd, hwd⟩ : ∃ wd : World, wd = wq.drew := ⟨_, rfl⟩
                have BD : Hid (Below wr.heap.size wr wd) := by
                  rw [hwd]
                  exact BQ.out.trans ((Below.refl _ _).drew)
                obtain ⟨dx, dy⟩ := HCX.out wd BD.out
                obtain ⟨k2, ck2, AD2⟩ := AD.out wd BD.out
                have AD3 : Hid (Calls Tryz.prog 136 #[.pointer (some ⟨k2 + 1, 0, none⟩), .int .i64 (b2 : Int)] wd fun e w'' => ∃ bv, e = .returned (.bool bv) ∧ BtS w C.length K (Ms2.set a (addN (Ms2.getD a 0) b2)) w'' ∧ IL w'' (.slice (some ⟨lb, 0, none⟩) l.length lc) (nI l)) := AD2
                refine wp_region_tail_s 11 (by kernel_rfl) (by kernel_rfl) wd hwd ?_
                clear hwd cx cy BQ AD AD2 HCX
                simp only [List.take_succ_cons, List.take_zero, List.drop_succ_cons, List.drop_zero]
                iterate 11 (refine st_yes (v := ?_) (by rfl) ?_ ?_; rotate_left; (· (go_simp; with_reducible rfl)); (try simp only [Act.put, List.setIfInBounds_toArray, List.set_cons_zero, List.set_cons_succ]))
                refine st_nil ?_
                go_wp2_with (go_at_call 136; refine AD3.out.mono ?_; rintro e w4 ⟨bv, rfl, t4, i4⟩; have T4 : Hid (BtS w C.length K (Ms2.set a (addN (Ms2.getD a 0) b2)) w4 ∧ IL w4 (.slice (some ⟨lb, 0, none⟩) l.length lc) (nI l)) := ⟨t4, i4⟩; clear t4 i4 ck2 dx dy)
                go_roundw
                case rel => exact ⟨q + 1, _, by omega, by go_num, T4.out.1, T4.out.2, HB2.out⟩
                case measure => simp [intOf]; omega
            · obtain rfl : q = l.length := by omega
              have qlt : ¬ (l.length : Int) < (l.length : Int) := by omega
              have HB3 : Hid (BtS w C.length K Ms2 wr ∧ ∀ a b, a < C.length → b < C.length → ((Ms2.getD a 0).testBit b = true ↔ a ≠ b ∧ ∃ x' y, x' < x + 1 ∧ K.getD x' 0 = a ∧ K.getD y 0 = b ∧ EdB Ns n x' y)) := ⟨hU2, fun a b ha hb => by
                rw [hbit a b ha hb, List.take_length]
                constructor
                · rintro ⟨h1, x', y', h2, h3⟩
                  exact ⟨h1, x', y', by rcases h2 with h2 | h2 <;> omega, h3⟩
                · rintro ⟨h1, x', y', h2, h3, h4, h5⟩
                  refine ⟨h1, x', y', ?_, h3, h4, h5⟩
                  by_cases e : x' = x
                  · subst e
                    exact .inr ⟨rfl, (HLM.out y').2 h5.2⟩
                  · exact .inl (by omega)⟩
              clear hU2 hbit hil
              go_wp2
              go_roundw
              case rel => exact ⟨x + 1, Ms2, by omega, by go_num, HB3.out.1, HB3.out.2⟩
              case measure => simp [intOf]; omega
        · obtain rfl : x = n := by omega
          have ilt : ¬ (x : Int) < (x : Int) := by omega
          have HU : Hid (RwB wr (w.heap.size + 1) C.length (ksE (w.heap.size + 1) C.length) (btU C Ns x) ∧ Below w.heap.size w wr) := by
            refine ⟨?_, hU.bel⟩
            have e : Ms = btU C Ns x := by
              rw [HBU.out]
              refine rowN_ext hU.len (fun y hy => ?_) (fun a b ha hb => ?_)
              · obtain ⟨k3, hk3, hs3⟩ := hU.rw.at (show y < Ms.length by rw [hU.len]; exact hy)
                exact hs3.lt
              · rw [Bool.eq_iff_iff, hbit a b ha hb, btF_iff]
                constructor
                · rintro ⟨h1, x', y', h2, h3⟩
                  exact ⟨h1, x', y', h3⟩
                · rintro ⟨h1, x', y', h3, h4, h5⟩
                  exact ⟨h1, x', y', h5.1, h3, h4, h5⟩
            rw [← e]
            exact hU.rw
          clear hU hbit
          go_wp2
          go_ret
          exact ⟨_, rfl, ⟨_, HU.out.1⟩, HU.out.2⟩
end Go.Proofs.YtlfiohdhcmmjbaaGreatDoor
