import Derived.Test.YtcgghlaifmlpiaaGreatDoorBT13
namespace Go.Proofs.YtcgghlaifmlpiaaGreatDoor
set_option linter.unusedVariables false
open Go.RowKit Go.Shelf

theorem TabB.lt {w : World} (h : TabB w) : tzRen.g 1 < w.heap.size := World.block_lt_of_cell? w _ (h 0 (by decide))
theorem inrow_at {w : World} {ra : Option Addr} {l : List Nat} (h : InRow w ra (nI l)) {i x : Nat} (hx : l[i]? = some x) : ∃ b off, ra = some ⟨b, off, none⟩ ∧ b < w.heap.size ∧ w.cell? ⟨b, off + i, none⟩ = some (.int .i64 (x : Int)) := by
  have hi := (List.getElem?_eq_some_iff.1 hx).1
  obtain ⟨b, off, e, hb, hc⟩ := h (by intro q; have := congrArg List.length q; rw [nI_len] at this; simp at this; rw [this] at hi; simp at hi)
  refine ⟨b, off, e, hb, ?_⟩
  have := hc i (by rw [nI_len]; exact hi)
  rw [this]
  congr 2
  simp [nI, List.getD_eq_getElem?_getD, hx]
theorem one_cellB (w : World) (x : SlV) (t : TypeId) : ∀ (j : Nat) (u : Value), (slCB x)[j]? = some u → (w.alloc (.cells #[.slice x.1 x.2.1 x.2.2] t)).cell? ⟨w.heap.size, j, none⟩ = some u := fun j u hu => by
  rw [cellq_any (heap_alloc_new w _)]
  cases j with
  | zero => simpa [slCB] using hu
  | succ j => simp [slCB] at hu
/-- What lasts in a search. -/
structure ShB (w : World) (n : Nat) (vls : Value) (V : List SlV) (L : List (List Nat)) (S : Nat) (wr : World) : Prop where
  ls : LsB (w.heap.size + 2) vls V L wr
  sb : SB wr w.heap.size n S
  bel : Below w.heap.size w wr
  sz : w.heap.size + 2 ≤ wr.heap.size
theorem ShB.seen {w wr w' : World} {n S S' : Nat} {vls : Value} {V : List SlV} {L : List (List Nat)} (h : ShB w n vls V L S wr) (hs : SB w' w.heap.size n S') (hf : FrB (· = w.heap.size) wr w') : ShB w n vls V L S' w' :=
  ⟨h.ls.frB hf (fun j q => by have q2 : j = w.heap.size := q; omega), hs, hf.below h.bel (by have := h.sz; omega) (fun j q => by have q2 : j = w.heap.size := q; omega), Nat.le_trans h.sz hf.size⟩
theorem ShB.out {w w2 w3 wa w4 : World} {n S : Nat} {vls v' : Value} {V : List SlV} {L : List (List Nat)} {x : SlV} {l : List Nat} (h : ShB w n vls V L S w3) (hx : IL w3 (slV x) (nI l)) (ho : ∀ j, (slV x).ownBlock = some j → w2.heap.size ≤ j) (h2 : LsB (w.heap.size + 2) vls V L w2) (hb : Below w3.heap.size w3 wa) (hg : Grew wa w4 vls v') (hr : SLo w4 v' (V ++ [x])) (hz : w.heap.size + 2 ≤ w2.heap.size) : ShB w n v' (V ++ [x]) (L ++ [l]) S w4 := by
  have hsz := h.sz
  have hzb := hb.size
  refine ⟨h.ls.snoc hx (fun j hj => by have := ho j hj; omega) (fun j hj e => ?_) (fun y hy j hj e => ?_) hb hg hr (by omega), ?_, ?_, ?_⟩
  · have h1 := ho j hj
    have h3 := h2.row.lt j e
    omega
  · have h1 := ho j e
    obtain ⟨i, hi⟩ := List.getElem?_of_mem hy
    have hl : i < L.length := by rw [← h2.len]; exact (List.getElem?_eq_some_iff.1 hi).1
    have h3 := (World.ownsRow.lt (h2.il i y _ hi (List.getElem?_eq_getElem hl)) j hj).2
    omega
  · have s2 := h.sb.later hb
    have hk := h.sb.size
    have hne : ∀ j, j < w.heap.size + 2 → some j ≠ vls.ownBlock := fun j hj e => by have := h.ls.own j e.symm; omega
    refine ⟨?_, ?_, s2.lt, s2.ml⟩
    · rw [hg.grown.block _ (by omega) (hne _ (by omega))]
      exact s2.hd
    · rw [hg.grown.block _ (by omega) (hne _ (by omega))]
      exact s2.wd
  · have b1 := h.bel.trans (hb.mono h.bel.size)
    exact ⟨hg.grown.os.trans b1.os, hg.grown.tape.trans b1.tape, hg.grown.output.trans b1.output, Nat.le_trans b1.size hg.grown.size, fun j hj => (hg.grown.block j (by omega) (fun e => by have := h.ls.own j e.symm; omega)).trans (b1.block j hj)⟩
  · have := hg.grown.size
    omega
set_option maxRecDepth 100000 in
set_option maxHeartbeats 4000000 in
theorem search_SB {w : World} {rb n : Nat} {ks Ns roots : List Nat} (hR : RwB w rb n ks Ns) (hn : Ns.length = n) (hm : n ≤ 4096) (hT : TabB w) (hkin : ∀ k ∈ ks, k + 1 < w.heap.size) (ra : Option Addr) (rc c : Nat) (hro : InRow w ra (nI roots)) (hrl : ∀ r ∈ roots, r < n) (hrn : roots.length ≤ 100000) :
    Calls Tryz.prog 117 #[.slice (some ⟨rb, 0, none⟩) n c, .slice ra roots.length rc] w fun e w' => ∃ v V, e = .returned v ∧ LsB (w.heap.size + 2) v V (srU Ns n roots ([], 0)).1 w' ∧ Below w.heap.size w w' := by
  have HR : Hid (RwB w rb n ks Ns) := hR
  have HT : Hid (TabB w) := hT
  have HKI : Hid (∀ k ∈ ks, k + 1 < w.heap.size) := hkin
  have HRO : Hid (InRow w ra (nI roots)) := hro
  have HRL : Hid (∀ r ∈ roots, r < n) := hrl
  have HNL : Hid (Ns.length = n) := hn
  have HEM : Hid (Calls Tryz.prog 87 #[.int .i64 (n : Int)] w fun e w' => e = .returned (.pointer (some ⟨w.heap.size + 1, 0, none⟩)) ∧ SB w' w.heap.size n 0 ∧ Below w.heap.size w w' ∧ w'.heap.size = w.heap.size + 2) := empty_SB n hm w
  obtain ⟨R, hRe⟩ : ∃ R, srU Ns n roots ([], 0) = R := ⟨_, rfl⟩
  have HRE : Hid (srU Ns n roots ([], 0) = R) := hRe
  rw [hRe]
  clear hR hT hkin hro hrl hn hRe
  go_enter Tryz.func117, Tryz.ntmps117
  go_wp2_with (go_at_call 87; refine HEM.out.mono ?_; rintro e w1 ⟨rfl, s1, b1, z1⟩; have S1 : Hid (ShB w n (.slice none 0 0) [] [] 0 w1) := ⟨LsB.nil _ _, s1, b1, by omega⟩; clear s1 b1 z1)
  clear HEM
  go_loopw [6, 14] (fun vls z wr => ∃ (i : Nat) (V : List SlV) (L : List (List Nat)) (S : Nat), i ≤ roots.length ∧ z = .int .i64 (i : Int) ∧ ShB w n vls V L S wr ∧ L.length ≤ i ∧ srU Ns n (roots.drop i) (L, S) = R) (fun _ z _ => roots.length - (intOf z).toNat)
  case atStart => exact ⟨0, [], [], 0, Nat.zero_le _, rfl, S1.out, Nat.le_refl _, HRE.out⟩
  case round =>
    clear S1 HRE
    obtain ⟨i, V, L, S, hi, rfl, hS, hLi, hU⟩ := hrel
    by_cases hlt : i < roots.length
    · have ilt : (i : Int) < (roots.length : Int) := by omega
      obtain ⟨r, hr⟩ : ∃ r, roots[i]? = some r := ⟨_, List.getElem?_eq_getElem hlt⟩
      have hrn2 : r < n := HRL.out r (List.mem_of_getElem? hr)
      have hdr : roots.drop i = r :: roots.drop (i + 1) := by
        rw [List.drop_eq_getElem_cons hlt]
        congr 1
        exact (List.getElem?_eq_some_iff.1 hr).2
      obtain ⟨b, off, hra, hbl, cr⟩ := inrow_at (HRO.out.later hS.bel) hr
      rw [hdr] at hU
      unfold srU at hU
      have AD : Hid (Calls Tryz.prog 50 #[.pointer (some ⟨w.heap.size + 1, 0, none⟩), .int .i64 (r : Int)] wr fun e w'' => e = .returned (.bool (!S.testBit r)) ∧ SB w'' w.heap.size n (addN S r) ∧ FrB (· = w.heap.size) wr w'') := (add_SB hS.sb (r : Int)).mono fun e w'' ⟨q1, q2, q3⟩ => by
        have e1 : decide (0 ≤ (r : Int) ∧ (r : Int) < (n : Int)) = true := decide_eq_true ⟨by omega, by omega⟩
        have e2 : addX S n (r : Int) = addN S r := by unfold addX; rw [if_pos ⟨by omega, by omega⟩]; rfl
        rw [e1, Int.toNat_natCast, Bool.true_and] at q1
        rw [e2] at q2
        exact ⟨q1, q2, q3⟩
      have HS : Hid (ShB w n u6 V L S wr) := hS
      subst hra
      clear hS hr hdr
      by_cases hb : S.testBit r = true
      · rw [if_pos hb] at hU
        rw [hb] at AD
        have HU : Hid (srU Ns n (roots.drop (i + 1)) (L, S) = R) := hU
        have HAN : Hid (addN S r = S) := addN_in hb
        clear hU hb
        go_wp2_with (go_at_call 50; refine AD.out.mono ?_; rintro e w2 ⟨rfl, s2, f2⟩; have S2 : Hid (ShB w n u6 V L S w2) := HS.out.seen (by rw [← HAN.out]; exact s2) f2; clear s2 f2 cr)
        go_roundw
        case rel => exact ⟨i + 1, V, L, S, by omega, by go_num, S2.out, by omega, HU.out⟩
        case measure => simp [intOf]; omega
      · rw [if_neg hb] at hU
        rw [Bool.eq_false_iff.2 hb] at AD
        obtain ⟨R1, hR1⟩ : ∃ R1, lvU Ns n ⟨[r], [], addN S r⟩ = R1 := ⟨_, rfl⟩
        rw [hR1] at hU
        have HU : Hid (srU Ns n (roots.drop (i + 1)) (L ++ [R1.left], R1.seen) = R) := hU
        have LV : Hid (∀ w2, SB w2 w.heap.size n (addN S r) → Below w.heap.size w w2 → Calls Tryz.prog 128 #[.int .i64 (r : Int), .slice (some ⟨rb, 0, none⟩) n c, .pointer (some ⟨w.heap.size + 1, 0, none⟩)] w2 fun e w' => ∃ x : SlV, e = .returned (slV x) ∧ IL w' (slV x) (nI R1.left) ∧ (∀ j, (slV x).ownBlock = some j → w2.heap.size ≤ j) ∧ SB w' w.heap.size n R1.seen ∧ FrB (· = w.heap.size) w2 w') := fun w2 h2 hb2 => by
          have hz2 := hb2.size
          have := leave_SB (HR.out.later hb2) HNL.out h2 hrn2 (HT.out.later hb2) (fun k hk => by have := HKI.out k hk; omega) (fun k hk => by have := HKI.out k hk; omega) ⟨by have := HT.out.lt; omega, by have := HT.out.lt; omega⟩ c
          rw [hR1] at this
          refine this.mono fun e w' ⟨v, q1, q2, q3, q4, q5⟩ => ?_
          obtain ⟨a5, c5, rfl⟩ : ∃ a c, v = .slice a (nI R1.left).length c := by
            rcases q2.2 with ⟨rfl, h0⟩ | ⟨g, cap, cur, rfl, _⟩
            · exact ⟨none, 0, by rw [h0]⟩
            · exact ⟨_, _, rfl⟩
          exact ⟨(a5, (nI R1.left).length, c5), q1, q2, q3, q4, q5⟩
        have HLN : Hid (V.length ≤ 1000000000) := by
          have e1 := HS.out.ls.len
          show _ ≤ _
          omega
        have HWS : Hid (w.heap.size + 2 ≤ wr.heap.size) := HS.out.sz
        clear hU hb hR1
        go_wp2_with (first
          | (go_at_call 50; refine AD.out.mono ?_; rintro e w2 ⟨rfl, s2, f2⟩; have S2 : Hid (ShB w n u6 V L (addN S r) w2) := HS.out.seen s2 f2; clear s2 f2 cr)
          | (go_at_call 128; refine (LV.out _ S2.out.sb S2.out.bel).mono ?_; rintro e w3 ⟨⟨xa, xl, xc⟩, rfl, i3, o3, s3, f3⟩; have S3 : Hid (ShB w n u6 V L R1.seen w3) := S2.out.seen s3 f3; have X3 : Hid (IL w3 (.slice xa xl xc) (nI R1.left) ∧ ∀ j, (Value.slice xa xl xc).ownBlock = some j → w2.heap.size ≤ j) := ⟨i3, o3⟩; clear i3 o3 s3 f3)
          | (at_builtin; refine wpList_ro_append rkSl rfl _ _ rfl u6 V rfl (S3.out.ls.row.later (below_alloc _ _)) w3.heap.size 1 (xa, xl, xc) rfl (one_cellB w3 (xa, xl, xc) _) HLN.out ?_; intro a4 n4 c4 w4 ho4 hg4; have W4 : Hid (ShB w n (.slice a4 n4 c4) (V ++ [(xa, xl, xc)]) (L ++ [R1.left]) R1.seen w4) := S3.out.out X3.out.1 X3.out.2 S2.out.ls (below_alloc _ _) hg4 ho4 S2.out.sz; clear ho4 hg4))
        go_roundw
        case rel => exact ⟨i + 1, _, _, _, by omega, by go_num, W4.out, by simp; omega, HU.out⟩
        case measure => simp [intOf]; omega
    · obtain rfl : i = roots.length := by omega
      have ilt : ¬ (roots.length : Int) < (roots.length : Int) := by omega
      rw [List.drop_length] at hU
      have HF : Hid (LsB (w.heap.size + 2) u6 V R.1 wr ∧ Below w.heap.size w wr) := by
        rw [← hU]
        exact ⟨hS.ls, hS.bel⟩
      clear hS hU
      go_wp2
      go_ret
      exact ⟨_, rfl, ⟨V, HF.out.1⟩, HF.out.2⟩
end Go.Proofs.YtcgghlaifmlpiaaGreatDoor
