import Derived.Test.YtcgghlaifmlpiaaGreatDoorBT15
namespace Go.Proofs.YtcgghlaifmlpiaaGreatDoor
set_option linter.unusedVariables false
open Go.RowKit Go.Shelf

theorem IL.atB {w : World} {v : Value} {l : List Nat} (h : IL w v (nI l)) {i : Nat} (hi : i < l.length) : ∃ b c, v = .slice (some ⟨b, 0, none⟩) l.length c ∧ w.cell? ⟨b, i, none⟩ = some (.int .i64 (l.getD i 0 : Int)) := by
  unfold IL at h
  rw [nI_len] at h
  rcases h.2 with ⟨_, h0⟩ | ⟨b, cap, cur, rfl, h1, h2, h3, h4, h5, h6⟩
  · omega
  · refine ⟨b, cap, rfl, ?_⟩
    rw [World.ownsRow.cellAt h i (by omega)]
    simp [nI, List.getD_eq_getElem?_getD, List.getElem?_eq_getElem hi]
theorem il_lenB {w : World} {v : Value} {l : List Nat} (h : IL w v (nI l)) : ∃ a c, v = .slice a l.length c := by
  unfold IL at h
  rw [nI_len] at h
  rcases h.2 with ⟨rfl, h0⟩ | ⟨g, cap, cur, rfl, _⟩
  · exact ⟨none, 0, by rw [h0]⟩
  · exact ⟨_, _, rfl⟩
theorem bitsL_nI (N n : Nat) : bitsL N n = nI (bitsU N n) := rfl
theorem bitsU_mem {N n y : Nat} : y ∈ bitsU N n ↔ y < n ∧ N.testBit y = true := by
  unfold bitsU
  rw [List.mem_filter, List.mem_range]
/-- Rows with each edge the other way round, under way. -/
structure TuB (w : World) (n : Nat) (Ms : List Nat) (wr : World) : Prop where
  rw : RwB wr w.heap.size n (ksE w.heap.size n) Ms
  len : Ms.length = n
  bel : Below w.heap.size w wr
theorem TuB.any {w wr w' : World} {n : Nat} {Ms : List Nat} (h : TuB w n Ms wr) (hb : Below wr.heap.size wr w') : TuB w n Ms w' := ⟨h.rw.later hb, h.len, h.bel.trans (hb.mono h.bel.size)⟩
theorem getD_setV {K : List Nat} {i j v : Nat} : (K.set i v).getD j 0 = if i = j ∧ j < K.length then v else K.getD j 0 := by
  simp only [List.getD, List.getElem?_set]
  by_cases h1 : i = j
  · subst h1
    by_cases h2 : i < K.length
    · simp [h2]
    · simp [h2]
  · simp [h1]
theorem TuB.turn {w wr w' : World} {n y k M : Nat} {Ms : List Nat} (h : TuB w n Ms wr) (hk : (ksE w.heap.size n)[y]? = some k) (hs : SB w' k n M) (hf : FrB (· = k) wr w') : TuB w n (Ms.set y M) w' := by
  have hy : y < n := by have := (List.getElem?_eq_some_iff.1 hk).1; rwa [ksE_len] at this
  rw [ksE_get hy] at hk
  refine ⟨h.rw.turn (by rw [ksE_get hy]; exact hk) hs hf, by rw [List.length_set]; exact h.len, hf.below h.bel h.bel.size (fun j q => ?_)⟩
  have q2 : j = k := q
  have := Option.some.inj hk
  omega
set_option maxRecDepth 100000 in
set_option maxHeartbeats 4000000 in
theorem turned_SB {w : World} {rb n : Nat} {ks Ns : List Nat} (hR : RwB w rb n ks Ns) (hn : Ns.length = n) (hm : n ≤ 4096) (hT : TabB w) (c : Nat) :
    Calls Tryz.prog 89 #[.slice (some ⟨rb, 0, none⟩) n c] w fun e w' => ∃ Ms, e = .returned (.slice (some ⟨w.heap.size, 0, none⟩) n n) ∧ TuB w n Ms w' ∧ ∀ x y, x < n → y < n → (Ms.getD y 0).testBit x = (Ns.getD x 0).testBit y := by
  have HR : Hid (RwB w rb n ks Ns) := hR
  have HT : Hid (TabB w) := hT
  have HNL : Hid (Ns.length = n) := hn
  have HEM : Hid (Calls Tryz.prog 82 #[.int .i64 (n : Int), .int .i64 (n : Int)] w fun e w' => e = .returned (.slice (some ⟨w.heap.size, 0, none⟩) n n) ∧ RwB w' w.heap.size n (ksE w.heap.size n) (List.replicate n 0) ∧ Below w.heap.size w w') := empties_SB n n hm hm w
  clear hR hT hn
  go_enter Tryz.func89, Tryz.ntmps89
  go_wp2_with (go_at_call 82; refine HEM.out.mono ?_; rintro e w1 ⟨rfl, s1, b1⟩; have S1 : Hid (TuB w n (List.replicate n 0) w1) := ⟨s1, by simp, b1⟩; clear s1 b1)
  clear HEM
  go_loopw [15] (fun z wr => ∃ (i : Nat) (Ms : List Nat), i ≤ n ∧ z = .int .i64 (i : Int) ∧ TuB w n Ms wr ∧ ∀ x y, x < n → y < n → (Ms.getD y 0).testBit x = (decide (x < i) && (Ns.getD x 0).testBit y)) (fun z _ => n - (intOf z).toNat)
  case atStart => exact ⟨0, _, Nat.zero_le _, rfl, S1.out, fun x y _ hy => by simp [List.getD_eq_getElem?_getD, hy]⟩
  case round =>
    clear S1
    obtain ⟨i, Ms, hi, rfl, hU, hbit⟩ := hrel
    by_cases hlt : i < n
    · have ilt : (i : Int) < (n : Int) := by omega
      obtain ⟨k, hk, hsk⟩ := (HR.out.later hU.bel).at (show i < Ns.length by rw [HNL.out]; exact hlt)
      have ck := (HR.out.later hU.bel).cell hk
      have LI : Hid (Calls Tryz.prog 23 #[.pointer (some ⟨k + 1, 0, none⟩)] wr fun e w' => ∃ v, e = .returned v ∧ LBs wr (bitsL (Ns.getD i 0) n) v w') := list_SB hsk (HT.out.later hU.bel)
      have HU : Hid (TuB w n Ms wr) := hU
      have HBI : Hid (∀ x y, x < n → y < n → (Ms.getD y 0).testBit x = (decide (x < i) && (Ns.getD x 0).testBit y)) := hbit
      obtain ⟨l, hl⟩ : ∃ l, bitsU (Ns.getD i 0) n = l := ⟨_, rfl⟩
      have HLM : Hid (∀ y, y ∈ l ↔ y < n ∧ (Ns.getD i 0).testBit y = true) := fun y => by rw [← hl]; exact bitsU_mem
      rw [bitsL_nI, hl] at LI
      have HLL : Hid (l.length ≤ 4096) := by
        show _ ≤ _
        rw [← hl, bitsU_len]
        exact Nat.le_trans (popB_le _ _) hm
      clear hU hbit hsk hk hl
      obtain ⟨wz, rfl⟩ : ∃ wz : World, wz = wr := ⟨_, rfl⟩
      go_wp2_with (go_at_call 23; refine LI.out.mono ?_; rintro e w2 ⟨v, rfl, l2⟩; obtain ⟨la, lc, rfl⟩ := il_lenB l2.il; have L2 : Hid (TuB w n Ms w2 ∧ IL w2 (.slice la l.length lc) (nI l) ∧ ∀ j, (Value.slice la l.length lc).ownBlock = some j → wz.heap.size ≤ j) := ⟨HU.out.any (l2.bel), l2.il, l2.own⟩; clear l2 ck)
      clear LI
      have hLL := HLL.out
      go_loopw [23] (fun z wr => ∃ (q : Nat) (Ms : List Nat), q ≤ l.length ∧ z = .int .i64 (q : Int) ∧ TuB w n Ms wr ∧ IL wr (.slice la l.length lc) (nI l) ∧ ∀ x y, x < n → y < n → (Ms.getD y 0).testBit x = ((decide (x < i) && (Ns.getD x 0).testBit y) || (decide (x = i) && decide (y ∈ l.take q)))) (fun z _ => l.length - (intOf z).toNat)
      case atStart => exact ⟨0, Ms, Nat.zero_le _, rfl, L2.out.1, L2.out.2.1, fun x y hx hy => by rw [HBI.out x y hx hy]; simp⟩
      case round =>
        have HOW : Hid (∀ j, (Value.slice la l.length lc).ownBlock = some j → wz.heap.size ≤ j) := L2.out.2.2
        have HKL : Hid (∀ y, y < n → w.heap.size + 1 + 2 * y + 1 < wz.heap.size) := fun y hy => by
          obtain ⟨k3, hk3, hs3⟩ := HU.out.rw.at (show y < Ms.length by rw [HU.out.len]; exact hy)
          rw [ksE_get hy] at hk3
          have := Option.some.inj hk3
          have := hs3.size
          omega
        clear L2 HBI
        obtain ⟨q, Ms2, hq, rfl, hU2, hil, hbit⟩ := hrel
        by_cases hql : q < l.length
        · have qlt : (q : Int) < (l.length : Int) := by omega
          obtain ⟨lb, lc', he, cl⟩ := IL.atB hil hql
          simp only [Value.slice.injEq, true_and] at he
          obtain ⟨rfl, rfl⟩ := he
          obtain ⟨y, hy⟩ : ∃ y, l.getD q 0 = y := ⟨_, rfl⟩
          rw [hy] at cl
          have hym : y ∈ l := by
            rw [← hy, List.getD_eq_getElem?_getD, List.getElem?_eq_getElem hql]
            exact List.getElem_mem hql
          have hyn := ((HLM.out y).1 hym).1
          have ylt : (y : Int) < (n : Int) := by omega
          obtain ⟨k2, hk2, hs2⟩ := hU2.rw.at (show y < Ms2.length by rw [hU2.len]; exact hyn)
          have ck2 := hU2.rw.cell hk2
          have AD : Hid (Calls Tryz.prog 50 #[.pointer (some ⟨k2 + 1, 0, none⟩), .int .i64 (i : Int)] wr fun e w'' => ∃ bv, e = .returned (.bool bv) ∧ TuB w n (Ms2.set y (addN (Ms2.getD y 0) i)) w'' ∧ IL w'' (.slice (some ⟨lb, 0, none⟩) l.length lc) (nI l)) := (add_SB hs2 (i : Int)).mono fun e w'' ⟨q1, q2, q3⟩ => by
            have e2 : addX (Ms2.getD y 0) n (i : Int) = addN (Ms2.getD y 0) i := by unfold addX; rw [if_pos ⟨by omega, by omega⟩]; rfl
            rw [e2] at q2
            refine ⟨_, q1, hU2.turn hk2 q2 q3, hil.kept (fun j hj => q3.block j (World.ownsRow.lt hil j hj).2 (fun z => ?_))⟩
            have z2 : j = k2 := z
            have h1 := HOW.out j hj
            rw [ksE_get hyn] at hk2
            have h2 := Option.some.inj hk2
            have h3 := HKL.out y hyn
            omega
          have HB2 : Hid (∀ x y', x < n → y' < n → ((Ms2.set y (addN (Ms2.getD y 0) i)).getD y' 0).testBit x = ((decide (x < i) && (Ns.getD x 0).testBit y') || (decide (x = i) && decide (y' ∈ l.take (q + 1))))) := fun x y' hx hy' => by
            have ht : l.take (q + 1) = l.take q ++ [y] := by
              rw [List.take_add_one, List.getElem?_eq_getElem hql, ← hy, List.getD_eq_getElem?_getD, List.getElem?_eq_getElem hql]
              rfl
            rw [getD_setV, ht]
            by_cases e : y = y'
            · subst e
              rw [if_pos ⟨rfl, by rw [hU2.len]; exact hyn⟩, addN_bit, hbit x y hx hy']
              by_cases e3 : i = x
              · subst e3; simp
              · rw [decide_eq_false e3, decide_eq_false (fun z : x = i => e3 z.symm)]
                simp
            · rw [if_neg (fun z => e z.1), hbit x y' hx hy']
              have e4 : (y' ∈ l.take q ++ [y]) = (y' ∈ l.take q) := by
                rw [List.mem_append, List.mem_singleton]
                exact propext ⟨fun z => z.elim id (fun z => absurd z.symm e), Or.inl⟩
              simp only [e4]
          clear hU2 hbit hil hs2 hk2 hym hy
          go_wp2_with (go_at_call 50; refine AD.out.mono ?_; rintro e w3 ⟨bv, rfl, t3, i3⟩; have W3 : Hid (TuB w n (Ms2.set y (addN (Ms2.getD y 0) i)) w3 ∧ IL w3 (.slice (some ⟨lb, 0, none⟩) l.length lc) (nI l)) := ⟨t3, i3⟩; clear t3 i3 ck2 cl)
          go_roundw
          case rel => exact ⟨q + 1, _, by omega, by go_num, W3.out.1, W3.out.2, HB2.out⟩
          case measure => simp [intOf]; omega
        · obtain rfl : q = l.length := by omega
          have qlt : ¬ (l.length : Int) < (l.length : Int) := by omega
          have HB3 : Hid (TuB w n Ms2 wr ∧ ∀ x y, x < n → y < n → (Ms2.getD y 0).testBit x = (decide (x < i + 1) && (Ns.getD x 0).testBit y)) := ⟨hU2, fun x y hx hy => by
            rw [hbit x y hx hy, List.take_length]
            by_cases e : x = i
            · subst e
              have e5 : decide (y ∈ l) = (Ns.getD x 0).testBit y := by
                rw [Bool.eq_iff_iff, decide_eq_true_iff, HLM.out y]
                exact ⟨fun z => z.2, fun z => ⟨hy, z⟩⟩
              rw [e5]
              simp
            · rw [decide_eq_false e, Bool.false_and, Bool.or_false]
              congr 1
              apply decide_eq_decide.2
              omega⟩
          clear hU2 hbit hil
          go_wp2
          go_roundw
          case rel => exact ⟨i + 1, Ms2, by omega, by go_num, HB3.out.1, HB3.out.2⟩
          case measure => simp [intOf]; omega
    · obtain rfl : i = n := by omega
      have ilt : ¬ (i : Int) < (i : Int) := by omega
      have HU : Hid (TuB w i Ms wr ∧ ∀ x y, x < i → y < i → (Ms.getD y 0).testBit x = (Ns.getD x 0).testBit y) := ⟨hU, fun x y hx hy => by rw [hbit x y hx hy, decide_eq_true hx, Bool.true_and]⟩
      clear hU hbit
      go_wp2
      go_ret
      exact ⟨rfl, Ms, HU.out.1, HU.out.2⟩
end Go.Proofs.YtcgghlaifmlpiaaGreatDoor
