import Derived.Test.YtcjejnenklppiaaDoorBZ6
namespace Go.Proofs.YtcjejnenklppiaaDoor
set_option linter.unusedVariables false
open Go.RowKit Go.Shelf

def ptO : Option Nat → Value
  | none => .pointer none
  | some k => ptB k
/-- Sets that are solved, or not yet. -/
structure SvM (w : World) (sb m : Nat) (ko sol : List (Option Nat)) : Prop where
  row : w.heap[sb]? = some (.cells (ko.map ptO).toArray 23)
  len : ko.length = sol.length
  yes : ∀ i k, ko.getD i none = some k → ∃ M, sol.getD i none = some M ∧ SB w k m M
  no : ∀ i, ko.getD i none = none → sol.getD i none = none
theorem SvM.later {w w' : World} {sb m : Nat} {ko sol : List (Option Nat)} (h : SvM w sb m ko sol) (hb : Below w.heap.size w w') : SvM w' sb m ko sol := ⟨(hb.block _ (lt_of_block h.row)).trans h.row, h.len, fun i k hk => by
  obtain ⟨M, h1, h2⟩ := h.yes i k hk
  exact ⟨M, h1, h2.later hb⟩, h.no⟩
theorem SvM.cell {w : World} {sb m : Nat} {ko sol : List (Option Nat)} (h : SvM w sb m ko sol) {i : Nat} (hi : i < sol.length) : w.cell? ⟨sb, i, none⟩ = some (ptO (ko.getD i none)) := by
  rw [cellq_any h.row]
  have hk : i < ko.length := by rw [h.len]; exact hi
  simp [List.getD_eq_getElem?_getD, List.getElem?_eq_getElem hk]
theorem or_mod {N M m : Nat} (h1 : N < 2 ^ m) (h2 : M < 2 ^ m) : (N ||| M) % 2 ^ m = N ||| M := Nat.mod_eq_of_lt (Nat.or_lt_two_pow h1 h2)
set_option maxRecDepth 100000 in
set_option maxHeartbeats 8000000 in
theorem gather_SB {w : World} {rb fb sb n m : Nat} {ks kf Ns Fs T : List Nat} {ko sol : List (Option Nat)} (hR : RwB w rb n ks Ns) (hn : Ns.length = n) (hm : n ≤ 4096) (hT : TabB w) (hF : RwB w fb m kf Fs) (hfn : Fs.length = n) (hS : SvM w sb m ko sol) (hsn : sol.length = n) (xa : Option Addr) (xc : Nat) (hTr : InRow w xa (nI T)) (hT0 : 0 < T.length) (hTn : ∀ x ∈ T, x < n) (hTl : T.length ≤ 4096) (c1 c2 c3 : Nat) :
    Calls Tryd.prog 56 #[.slice xa T.length xc, .slice (some ⟨rb, 0, none⟩) n c1, .slice (some ⟨fb, 0, none⟩) n c2, .slice (some ⟨sb, 0, none⟩) n c3] w fun e w' => e = .returned (.pointer (some ⟨w.heap.size + 1, 0, none⟩)) ∧ SB w' w.heap.size m (gaU Ns Fs n sol T) ∧ Below w.heap.size w w' := by
  have HR : Hid (RwB w rb n ks Ns) := hR
  have HT : Hid (TabB w) := hT
  have HNL : Hid (Ns.length = n) := hn
  have HF : Hid (RwB w fb m kf Fs) := hF
  have HFN : Hid (Fs.length = n) := hfn
  have HS : Hid (SvM w sb m ko sol) := hS
  have HSN : Hid (sol.length = n) := hsn
  have HTR : Hid (InRow w xa (nI T)) := hTr
  have HTN : Hid (∀ x ∈ T, x < n) := hTn
  obtain ⟨tb, to, hxa, htl, ct⟩ := inrow_at hTr (i := 0) (x := T.getD 0 0) (by rw [List.getD_eq_getElem?_getD, List.getElem?_eq_getElem hT0]; rfl)
  have hx0 := hTn _ (getD_memN hT0)
  obtain ⟨R, hRe⟩ : ∃ R, gaU Ns Fs n sol T = R := ⟨_, rfl⟩
  have HRE : Hid (gaX Ns Fs n sol T (Fs.getD (T.getD 0 0) 0) = R) := hRe
  rw [hRe]
  generalize T.getD 0 0 = x0 at *
  have xlt : (x0 : Int) < (n : Int) := by omega
  have t0 : (0 : Int) < (T.length : Int) := by omega
  obtain ⟨k0, hk0, hs0⟩ := hF.at (show x0 < Fs.length by rw [hfn]; exact hx0)
  have cf := hF.cell hk0
  have CP : Hid (Calls Tryd.prog 19 #[.pointer (some ⟨k0 + 1, 0, none⟩)] w fun e w' => e = .returned (.pointer (some ⟨w.heap.size + 1, 0, none⟩)) ∧ SB w' w.heap.size m (Fs.getD x0 0) ∧ Below w.heap.size w w') := copy_SB hs0
  subst hxa
  rw [Nat.add_zero] at ct
  clear hR hT hn hF hfn hS hsn hTr hTn hRe hk0 hs0
  go_enter Tryd.func56, Tryd.ntmps56
  go_wp2_with (go_at_call 19; refine CP.out.mono ?_; rintro e w1 ⟨rfl, s1, b1⟩; have W1 : Hid (SB w1 w.heap.size m (Fs.getD x0 0) ∧ Below w.heap.size w w1) := ⟨s1, b1⟩; clear s1 b1)
  clear CP ct cf
  go_loopw [23] (fun z wr => ∃ (q N : Nat), q ≤ T.length ∧ z = .int .i64 (q : Int) ∧ SB wr w.heap.size m N ∧ Below w.heap.size w wr ∧ gaX Ns Fs n sol (T.drop q) N = R) (fun z _ => T.length - (intOf z).toNat)
  case atStart => exact ⟨0, _, Nat.zero_le _, rfl, W1.out.1, W1.out.2, HRE.out⟩
  case round =>
    clear W1 HRE
    obtain ⟨q, N, hq, rfl, hs, hB, hG⟩ := hrel
    by_cases hql : q < T.length
    · have qlt : (q : Int) < (T.length : Int) := by omega
      obtain ⟨tb', to', he, htl', cq⟩ := inrow_at (HTR.out.later hB) (i := q) (x := T.getD q 0) (by rw [List.getD_eq_getElem?_getD, List.getElem?_eq_getElem hql]; rfl)
      simp only [Option.some.injEq, Addr.mk.injEq, and_true] at he
      obtain ⟨rfl, rfl⟩ := he
      have hxm := getD_memN hql
      have hdr := nat_get hql
      obtain ⟨x, hx⟩ : ∃ x, T.getD q 0 = x := ⟨_, rfl⟩
      rw [hx] at cq hxm hdr
      rw [hdr] at hG
      have hxn := HTN.out x hxm
      have xlt2 : (x : Int) < (n : Int) := by omega
      obtain ⟨kx, hkx, hsx⟩ := (HF.out).at (show x < Fs.length by rw [HFN.out]; exact hxn)
      have cx := (HF.out.later hB).cell hkx
      have hne : kx ≠ w.heap.size := by have := hsx.size; omega
      have UN : Hid (Calls Tryd.prog 12 #[.pointer (some ⟨w.heap.size + 1, 0, none⟩), .pointer (some ⟨kx + 1, 0, none⟩)] wr fun e w' => ∃ bv, e = .returned (.bool bv) ∧ SB w' w.heap.size m (N ||| Fs.getD x 0) ∧ Below w.heap.size w w') := (union_SB hs (hsx.later hB) hne).mono fun e w' ⟨q1, q2, q3⟩ => by
        rw [or_mod hs.lt hsx.lt] at q2
        exact ⟨_, q1, q2, q3.below hB hB.size (fun j hj => by have h2 : j = w.heap.size := hj; omega)⟩
      obtain ⟨kr, hkr, hsr⟩ := (HR.out).at (show x < Ns.length by rw [HNL.out]; exact hxn)
      have CR : Hid (∀ w', Below w.heap.size w w' → w'.cell? ⟨rb, x, none⟩ = some (.pointer (some ⟨kr + 1, 0, none⟩))) := fun w' b' => (HR.out.later b').cell hkr
      have LI : Hid (∀ w2, Below w.heap.size w w2 → Calls Tryd.prog 40 #[.pointer (some ⟨kr + 1, 0, none⟩)] w2 fun e w' => ∃ v, e = .returned v ∧ LBs w2 (bitsL (Ns.getD x 0) n) v w') := fun w2 b2 => list_SB (hsr.later b2) (HT.out.later b2)
      obtain ⟨l, hl⟩ : ∃ l, bitsU (Ns.getD x 0) n = l := ⟨_, rfl⟩
      have HLM : Hid (∀ y ∈ l, y < n) := fun y hy => by rw [← hl] at hy; exact (bitsU_mem.1 hy).1
      rw [bitsL_nI, hl] at LI
      have HG : Hid (gaX Ns Fs n sol (T.drop (q + 1)) (gaY sol l (N ||| Fs.getD x 0)) = R) := by rw [← hl]; exact hG
      have hLL : l.length ≤ 4096 := by
        rw [← hl, bitsU_len]
        exact Nat.le_trans (popB_le _ _) hm
      clear hs hB hG hdr hkx hsx hkr hsr hl hx hxm hne
      obtain ⟨wz, rfl⟩ : ∃ wz : World, wz = wr := ⟨_, rfl⟩
      go_wp2_with (first
        | (go_at_call 12; refine UN.out.mono ?_; rintro e w2 ⟨bv, rfl, s2, b2⟩; have W2 : Hid (SB w2 w.heap.size m (N ||| Fs.getD x 0) ∧ Below w.heap.size w w2) := ⟨s2, b2⟩; have cr := CR.out w2 b2; clear s2 b2 cx cq)
        | (go_at_call 40; refine (LI.out _ W2.out.2).mono ?_; rintro e w3 ⟨v, rfl, l3⟩; obtain ⟨la, lc, rfl⟩ := il_lenB l3.il; have W3 : Hid (SB w3 w.heap.size m (N ||| Fs.getD x 0) ∧ Below w.heap.size w w3 ∧ IL w3 (.slice la l.length lc) (nI l) ∧ ∀ j, (Value.slice la l.length lc).ownBlock = some j → w.heap.size < j) := ⟨W2.out.1.later l3.bel, W2.out.2.trans (l3.bel.mono W2.out.2.size), l3.il, fun j hj => Nat.lt_of_lt_of_le (Nat.lt_of_succ_lt W2.out.1.size) (l3.own j hj)⟩; clear l3 cr))
      clear UN CR LI W2
      go_loopw [39] (fun z wr => ∃ (p N : Nat), p ≤ l.length ∧ z = .int .i64 (p : Int) ∧ SB wr w.heap.size m N ∧ Below w.heap.size w wr ∧ IL wr (.slice la l.length lc) (nI l) ∧ gaX Ns Fs n sol (T.drop (q + 1)) (gaY sol (l.drop p) N) = R) (fun z _ => l.length - (intOf z).toNat)
      case atStart => exact ⟨0, _, Nat.zero_le _, rfl, W3.out.1, W3.out.2.1, W3.out.2.2.1, HG.out⟩
      case round =>
        have HOW : Hid (∀ j, (Value.slice la l.length lc).ownBlock = some j → w.heap.size < j) := W3.out.2.2.2
        clear W3 HG
        obtain ⟨p, N2, hp, rfl, hs, hB, hil, hG⟩ := hrel
        by_cases hpl : p < l.length
        · have plt : (p : Int) < (l.length : Int) := by omega
          obtain ⟨lb, lc', he, cl⟩ := IL.atB hil hpl
          simp only [Value.slice.injEq, true_and] at he
          obtain ⟨rfl, rfl⟩ := he
          have hym := getD_memN hpl
          have hdp := nat_get hpl
          obtain ⟨y, hy⟩ : ∃ y, l.getD p 0 = y := ⟨_, rfl⟩
          rw [hy] at cl hym hdp
          rw [hdp] at hG
          unfold gaY at hG
          have hyn := HLM.out y hym
          have ylt : (y : Int) < (n : Int) := by omega
          have cs := (HS.out.later hB).cell (i := y) (by rw [HSN.out]; exact hyn)
          cases hko : ko.getD y none with
          | none =>
            rw [hko] at cs
            have hso := HS.out.no y hko
            rw [hso] at hG
            simp only [ptO] at cs
            have HN : Hid (SB wr w.heap.size m N2 ∧ Below w.heap.size w wr ∧ IL wr (.slice (some ⟨lb, 0, none⟩) l.length lc) (nI l) ∧ gaX Ns Fs n sol (T.drop (q + 1)) (gaY sol (l.drop (p + 1)) N2) = R) := ⟨hs, hB, hil, hG⟩
            clear hs hB hil hG hdp hso hko hy hym
            go_wp2
            go_roundw
            case rel => exact ⟨p + 1, N2, by omega, by go_num, HN.out.1, HN.out.2.1, HN.out.2.2.1, HN.out.2.2.2⟩
            case measure => simp [intOf]; omega
          | some ky =>
            rw [hko] at cs
            obtain ⟨M, hso, hsy⟩ := HS.out.yes y ky hko
            rw [hso] at hG
            simp only [ptO, ptB] at cs
            have hne : ky ≠ w.heap.size := by have := hsy.size; omega
            have UN : Hid (Calls Tryd.prog 12 #[.pointer (some ⟨w.heap.size + 1, 0, none⟩), .pointer (some ⟨ky + 1, 0, none⟩)] wr fun e w' => ∃ bv, e = .returned (.bool bv) ∧ SB w' w.heap.size m (N2 ||| M) ∧ Below w.heap.size w w' ∧ IL w' (.slice (some ⟨lb, 0, none⟩) l.length lc) (nI l)) := (union_SB hs (hsy.later hB) hne).mono fun e w' ⟨q1, q2, q3⟩ => by
              rw [or_mod hs.lt hsy.lt] at q2
              refine ⟨_, q1, q2, q3.below hB hB.size (fun j hj => by have h2 : j = w.heap.size := hj; omega), hil.kept (fun j hj => q3.block j (World.ownsRow.lt hil j hj).2 (fun z => ?_))⟩
              have z2 : j = w.heap.size := z
              have := HOW.out j hj
              omega
            have HG2 : Hid (gaX Ns Fs n sol (T.drop (q + 1)) (gaY sol (l.drop (p + 1)) (N2 ||| M)) = R) := hG
            clear hs hB hil hG hdp hso hsy hko hne hy hym
            go_wp2_with (go_at_call 12; refine UN.out.mono ?_; rintro e w2 ⟨bv, rfl, s2, b2, i2⟩; have W2 : Hid (SB w2 w.heap.size m (N2 ||| M) ∧ Below w.heap.size w w2 ∧ IL w2 (.slice (some ⟨lb, 0, none⟩) l.length lc) (nI l)) := ⟨s2, b2, i2⟩; clear s2 b2 i2 cs cl)
            go_roundw
            case rel => exact ⟨p + 1, _, by omega, by go_num, W2.out.1, W2.out.2.1, W2.out.2.2, HG2.out⟩
            case measure => simp [intOf]; omega
        · obtain rfl : p = l.length := by omega
          have plt : ¬ (l.length : Int) < (l.length : Int) := by omega
          rw [List.drop_length] at hG
          have HN : Hid (SB wr w.heap.size m N2 ∧ Below w.heap.size w wr ∧ gaX Ns Fs n sol (T.drop (q + 1)) N2 = R) := ⟨hs, hB, hG⟩
          clear hs hB hil hG
          go_wp2
          go_roundw
          case rel => exact ⟨q + 1, N2, by omega, by go_num, HN.out.1, HN.out.2.1, HN.out.2.2⟩
          case measure => simp [intOf]; omega
    · obtain rfl : q = T.length := by omega
      have qlt : ¬ (T.length : Int) < (T.length : Int) := by omega
      rw [List.drop_length] at hG
      have hG' : N = R := hG
      subst hG'
      have HN : Hid (SB wr w.heap.size m N ∧ Below w.heap.size w wr) := ⟨hs, hB⟩
      clear hs hB hG
      go_wp2
      go_ret
      exact ⟨rfl, HN.out.1, HN.out.2⟩
end Go.Proofs.YtcjejnenklppiaaDoor
