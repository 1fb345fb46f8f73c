import Derived.Test.YtcgghlaifmlpiaaGreatDoorBT17
import Derived.WalkMore
namespace Go.Proofs.YtcgghlaifmlpiaaGreatDoor
set_option linter.unusedVariables false
open Go.RowKit Go.Shelf

def lnB : Value → Nat
  | .slice _ n _ => n
  | _ => 0
/-- No number below what is waited for is lacked. -/
def WtB (Ns : List Nat) (n P : Nat) (K : List Nat) : Prop := ∀ x, x < n → K.getD x 0 ≤ n ∧ ∀ j, j < K.getD x 0 → (Ns.getD x 0).testBit j = true → P.testBit j = true
theorem WtB.add {Ns : List Nat} {n P x : Nat} {K : List Nat} (h : WtB Ns n P K) : WtB Ns n (addN P x) K := fun y hy => ⟨(h y hy).1, fun j h1 h2 => by rw [addN_bit, (h y hy).2 j h1 h2]; rfl⟩
theorem WtB.set {Ns : List Nat} {n P x : Nat} {K : List Nat} (h : WtB Ns n P K) (hr : lkB (minusB (Ns.getD x 0) P) n ≤ n) : WtB Ns n P (K.set x (lkB (minusB (Ns.getD x 0) P) n)) := fun y hy => by
  rw [getD_setV]
  by_cases e : x = y ∧ y < K.length
  · rw [if_pos e, ← e.1]
    exact ⟨hr, lk_all⟩
  · rw [if_neg e]
    exact h y hy
set_option maxRecDepth 100000 in
set_option maxHeartbeats 8000000 in
theorem place_SB {w : World} {rb n : Nat} {ks Ns : List Nat} (hR : RwB w rb n ks Ns) (hn : Ns.length = n) (hm : n ≤ 4096) (hT : TabB w) (c : Nat) :
    Calls Tryz.prog 37 #[.slice (some ⟨rb, 0, none⟩) n c] w fun e w' => ∃ v, e = .returned v ∧ IL w' v (nI (placeU Ns n)) ∧ (∀ j, v.ownBlock = some j → w.heap.size ≤ j) ∧ Below w.heap.size w w' := by
  have HR : Hid (RwB w rb n ks Ns) := hR
  have HT : Hid (TabB w) := hT
  have HNL : Hid (Ns.length = n) := hn
  have hmk := make_cap n (by omega)
  have HMI : Hid (∀ w : World, (Instr.makeSlice 46 (.int .i64 (n : Int)) (.int .i64 (n : Int))).run Tryz.prog w = .ok (.slice (some ⟨w.heap.size, 0, none⟩) n n) (w.alloc (.cells (madeCells #[.int .i64 0] n) 3))) := make_iB n (by omega)
  have HA : Hid (IL (w.alloc (.cells (madeCells #[.int .i64 0] n) 3)) (.slice (some ⟨w.heap.size, 0, none⟩) 0 n) [] ∧ Below w.heap.size w (w.alloc (.cells (madeCells #[.int .i64 0] n) 3)) ∧ (w.alloc (.cells (madeCells #[.int .i64 0] n) 3)).heap.size = w.heap.size + 1) := by
    exact ⟨IL.cap w n (by omega), below_alloc w _, by simp⟩
  have HEM : Hid (Calls Tryz.prog 87 #[.int .i64 (n : Int)] (w.alloc (.cells (madeCells #[.int .i64 0] n) 3)) fun e w' => e = .returned (.pointer (some ⟨w.heap.size + 1 + 1, 0, none⟩)) ∧ SB w' (w.heap.size + 1) n 0 ∧ Below (w.alloc (.cells (madeCells #[.int .i64 0] n) 3)).heap.size (w.alloc (.cells (madeCells #[.int .i64 0] n) 3)) w' ∧ w'.heap.size = w.heap.size + 3) := by
    have := empty_SB n hm (w.alloc (.cells (madeCells #[.int .i64 0] n) 3))
    rw [HA.out.2.2] at this
    rw [HA.out.2.2]
    exact this
  obtain ⟨R, hRe⟩ : ∃ R, plcF Ns n n ([], 0) = R := ⟨_, rfl⟩
  have HRE : Hid (plcF Ns n n ([], 0) = R) := hRe
  have HPU : Hid (placeU Ns n = R.1) := by show _ = _; unfold placeU; rw [hRe]
  clear hR hT hn hRe
  go_enter Tryz.func37, Tryz.ntmps37
  go_wp2
  apply wp_scope_straight
  go_wp2_with (go_at_call 87; refine HEM.out.mono ?_)
  rintro e w1 ⟨rfl, s1, b1, z1⟩
  have hmi1 := HMI.out w1
  rw [z1] at hmi1
  have P1 : Hid (PlB w n [] 0 (List.replicate n 0) (.slice (some ⟨w.heap.size, 0, none⟩) 0 n) (w1.alloc (.cells (madeCells #[.int .i64 0] n) 3))) := by
    have k1 := KbB.made w1 n
    rw [z1] at k1
    have b2 := HA.out.2.1.trans (b1.mono HA.out.2.1.size)
    refine ⟨(HA.out.1.later b1).later (below_alloc _ _), fun j hj => ?_, s1.later (below_alloc _ _), k1, by simp, b2.trans ((below_alloc w1 _).mono b2.size), by simp [z1]⟩
    simp [Value.ownBlock] at hj
    exact .inl hj.symm
  clear s1 b1 z1
  go_wp2
  clear HEM hmk HMI hmi1
  apply wp_label
  go_wp2
  go_loopw [3] (fun v wr => ∃ (l : List Nat) (P : Nat) (K : List Nat), PlB w n l P K v wr ∧ l.length ≤ n ∧ WtB Ns n P K ∧ plcF Ns n (n - l.length) (l, P) = R) (fun v _ => n - lnB v)
  case atStart => exact ⟨[], 0, _, P1.out, Nat.zero_le _, fun x hx => (by simp [List.getD_eq_getElem?_getD, hx]), HRE.out⟩
  case round =>
    clear P1 HRE
    obtain ⟨l, P, K, hP, hll, hW, hF⟩ := hrel
    obtain ⟨la, lc, rfl⟩ := il_lenB hP.il
    by_cases hfull : l.length < n
    · have llt : (l.length : Int) < (n : Int) := by omega
      have HP0 : Hid (PlB w n l P K (.slice la l.length lc) wr ∧ WtB Ns n P K) := ⟨hP, hW⟩
      have HF : Hid (plcF Ns n (n - l.length) (l, P) = R) := hF
      clear hP hW hF
      obtain ⟨wz, rfl⟩ : ∃ wz : World, wz = wr := ⟨_, rfl⟩
      go_wp2
      go_loopw [3, 24] (fun v z wr => ∃ (x : Nat) (K : List Nat), x ≤ n ∧ z = .int .i64 (x : Int) ∧ v = .slice la l.length lc ∧ PlB w n l P K (.slice la l.length lc) wr ∧ WtB Ns n P K ∧ ∀ y, y < x → cdB Ns n P y = false) (fun _ z _ => n - (intOf z).toNat)
      case atStart => exact ⟨0, K, Nat.zero_le _, rfl, rfl, HP0.out.1, HP0.out.2, fun y hy => absurd hy (Nat.not_lt_zero y)⟩
      case round =>
        clear HP0
        obtain ⟨x, K2, hx, rfl, rfl, hP, hW, hcd⟩ := hrel
        by_cases hxn : x < n
        · have xlt : (x : Int) < (n : Int) := by omega
          have HP2 : Hid (PlB w n l P K2 (.slice la l.length lc) wr ∧ WtB Ns n P K2 ∧ ∀ y, y < x → cdB Ns n P y = false) := ⟨hP, hW, hcd⟩
          obtain ⟨k, hk, hsk⟩ := (HR.out.later hP.bel).at (show x < Ns.length by rw [HNL.out]; exact hxn)
          have ck := (HR.out.later hP.bel).cell hk
          have HA2 : Hid (Calls Tryz.prog 51 #[.pointer (some ⟨w.heap.size + 1 + 1, 0, none⟩), .int .i64 (x : Int)] wr fun e w' => e = .returned (.bool (P.testBit x)) ∧ Below wr.heap.size wr w') := has_yes hP.sb x hxn
          by_cases hpx : P.testBit x = true
          · rw [hpx] at HA2
            have HC2 : Hid (∀ y, y < x + 1 → cdB Ns n P y = false) := fun y hy => by
              by_cases e : y = x
              · rw [e]; unfold cdB; rw [hpx]; rfl
              · exact hcd y (by omega)
            clear hP hW hcd hk hsk hpx
            go_wp2_with (go_at_call 51; refine HA2.out.mono ?_; rintro e w3 ⟨rfl, b3⟩; have P3 : Hid (PlB w n l P K2 (.slice la l.length lc) w3) := HP2.out.1.any b3; clear b3 ck)
            go_roundw
            case rel => exact ⟨x + 1, K2, by omega, by go_num, rfl, P3.out, HP2.out.2.1, HC2.out⟩
            case measure => simp [intOf]; omega
          · rw [Bool.eq_false_iff.2 hpx] at HA2
            have hkx := (hW x hxn).1
            obtain ⟨kx, hkxe⟩ : ∃ kx, K2.getD x 0 = kx := ⟨_, rfl⟩
            obtain ⟨r, hr⟩ : ∃ r, lkB (minusB (Ns.getD x 0) P) n = r := ⟨_, rfl⟩
            have hrn : r ≤ n := by rw [← hr]; exact (lkB_is _ _).le
            have LK : Hid (∀ w3, Below wr.heap.size wr w3 → Calls Tryz.prog 88 #[.pointer (some ⟨k + 1, 0, none⟩), .int .i64 (kx : Int), .pointer (some ⟨w.heap.size + 1 + 1, 0, none⟩)] w3 fun e w' => e = .returned (.int .i64 (r : Int)) ∧ Below w3.heap.size w3 w') := fun w3 b3 => (lacked_SB (hsk.later b3) ((hP.any b3).sb) ((HT.out.later hP.bel).later b3) kx (by omega)).mono fun e w' ⟨r', q1, q2, q3⟩ => by
              have e1 := lack_from q2 (by rw [← hkxe]; exact (hW x hxn).2)
              rw [hr] at e1
              rw [← e1]
              exact ⟨q1, q3⟩
            have CK : Hid (∀ w3, Below wr.heap.size wr w3 → w3.cell? ⟨w.heap.size + 3, x, none⟩ = some (.int .i64 (kx : Int)) ∧ w3.frozen? ⟨w.heap.size + 3, x, none⟩ = false) := fun w3 b3 => by
              have := (hP.kb.later b3).cell (i := x) (by rw [hP.kl]; exact hxn)
              rw [hkxe] at this
              exact ⟨this, (hP.kb.later b3).free x⟩
            have HW3 : Hid (WtB Ns n P (K2.set x r)) := by
              have := hW.set (x := x) (lkB_is _ _).le
              rw [hr] at this
              exact this
            have HNP : Hid (P.testBit x = false) := Bool.eq_false_iff.2 hpx
            have HRR : Hid (lkB (minusB (Ns.getD x 0) P) n = r) := hr
            clear hP hW hcd hk hsk hpx hkxe hr
            have SC4 : Hid (∀ w4 : World, PlB w n l P K2 (.slice la l.length lc) w4 → (w4.setCell ⟨w.heap.size + 3, x, none⟩ (.int .i64 (r : Int))).cell? ⟨w.heap.size + 3, x, none⟩ = some (.int .i64 (r : Int))) := fun w4 h4 => by
              have := ((h4.wait x r).kb).cell (i := x) (by rw [List.length_set, h4.kl]; exact hxn)
              rw [getD_setV, if_pos ⟨rfl, by rw [h4.kl]; exact hxn⟩] at this
              exact this
            by_cases hre : r = n
            · have re1 : ((r : Int) == (n : Int)) = true := by rw [hre]; simp
              have HNX : Hid (plcF Ns n (n - (l.length + 1)) (l ++ [x], addN P x) = R) := by
                have e1 := HF.out
                obtain ⟨f, hf⟩ : ∃ f, n - l.length = f + 1 := ⟨n - l.length - 1, by omega⟩
                have hc : cdB Ns n P x = true := by unfold cdB; rw [HNP.out, HRR.out, hre]; simp
                rw [hf, plcF, nxB_some hxn hc HP2.out.2.2] at e1
                rw [show n - (l.length + 1) = f by omega]
                exact e1
              have HWA : Hid (WtB Ns n (addN P x) (K2.set x r)) := HW3.out.add
              have HLN : Hid ((nI l).length ≤ 100000000) := by show _ ≤ _; rw [nI_len]; omega
              have NCL : Hid (∀ w4 : World, ((w4.setCell ⟨w.heap.size + 3, x, none⟩ (.int .i64 (r : Int))).alloc (.cells #[.int .i64 (x : Int)] 3)).cell? ⟨w4.heap.size, 0, none⟩ = some (.int .i64 (x : Int))) := fun w4 => by
                have := cellq_any (i := 0) (heap_alloc_new (w4.setCell ⟨w.heap.size + 3, x, none⟩ (.int .i64 (r : Int))) (.cells #[.int .i64 (x : Int)] 3))
                rw [show (w4.setCell ⟨w.heap.size + 3, x, none⟩ (.int .i64 (r : Int))).heap.size = w4.heap.size by simp] at this
                exact this
              subst hre
              go_wp2_with (first
                | (go_at_call 51; refine HA2.out.mono ?_; rintro e w3 ⟨rfl, b3⟩; have B3 : Hid (Below wr.heap.size wr w3) := b3; have P3 : Hid (PlB w r l P K2 (.slice la l.length lc) w3) := HP2.out.1.any b3; obtain ⟨cw, fw⟩ := CK.out w3 b3; clear b3 ck)
                | (go_at_call 88; refine (LK.out _ B3.out).mono ?_; rintro e w4 ⟨rfl, b4⟩; have P4 : Hid (PlB w r l P (K2.set x r) (.slice la l.length lc) (w4.setCell ⟨w.heap.size + 3, x, none⟩ (.int .i64 (r : Int)))) := (P3.out.any b4).wait x r; obtain ⟨cw2, fw2⟩ := CK.out w4 (B3.out.trans (b4.mono B3.out.size)); have cw3 := SC4.out w4 (P3.out.any b4); have NC : Hid (((w4.setCell ⟨w.heap.size + 3, x, none⟩ (.int .i64 (r : Int))).alloc (.cells #[.int .i64 (x : Int)] 3)).cell? ⟨w4.heap.size, 0, none⟩ = some (.int .i64 (x : Int))) := NCL.out w4; clear b4 cw fw)
                | (at_builtin; refine wpList_il_append_w rfl _ _ rfl (.slice la l.length lc) (nI l) rfl (P4.out.il.later (below_alloc _ _)) w4.heap.size 1 (x : Int) rfl NC.out HLN.out ?_; intro a4 n4 c4 w5 ho4 hg4))
              have P5 : Hid (PlB w r (l ++ [x]) P (K2.set x r) (.slice a4 n4 c4) w5) := P4.out.app (below_alloc _ _) hg4 ho4
              have hn4 : Hid (n4 = l.length + 1) := by
                obtain ⟨q1, q2, q⟩ := il_lenB P5.out.il
                simp only [Value.slice.injEq] at q
                show _ = _
                rw [q.2.1]
                simp
              clear ho4 hg4 cw2 fw2 cw3
              have AD5 : Hid (Calls Tryz.prog 50 #[.pointer (some ⟨w.heap.size + 1 + 1, 0, none⟩), .int .i64 (x : Int)] w5 fun e w'' => ∃ bv, e = .returned (.bool bv) ∧ PlB w r (l ++ [x]) (addN P x) (K2.set x r) (.slice a4 n4 c4) w'') := (add_SB P5.out.sb (x : Int)).mono fun e w'' ⟨q1, q2, q3⟩ => by
                have e2 : addX P r (x : Int) = addN P x := by unfold addX; rw [if_pos ⟨by omega, by omega⟩]; rfl
                rw [e2] at q2
                exact ⟨_, q1, P5.out.seen q2 q3⟩
              refine AD5.out.mono ?_
              rintro e w6 ⟨bv, rfl, p6⟩
              have P6 : Hid (PlB w r (l ++ [x]) (addN P x) (K2.set x r) (.slice a4 n4 c4) w6) := p6
              clear p6
              go_wp2
              go_roundw
              case rel => exact ⟨l ++ [x], addN P x, K2.set x r, P6.out, by simp; omega, HWA.out, by rw [List.length_append]; exact HNX.out⟩
              case measure => have := hn4.out; simp [lnB]; omega
            · have re1 : ((r : Int) == (n : Int)) = false := by simp; omega
              have HC2 : Hid (∀ y, y < x + 1 → cdB Ns n P y = false) := fun y hy => by
                by_cases e : y = x
                · rw [e]; unfold cdB; rw [HRR.out, decide_eq_false hre]; simp
                · exact HP2.out.2.2 y (by omega)
              go_wp2_with (first
                | (go_at_call 51; refine HA2.out.mono ?_; rintro e w3 ⟨rfl, b3⟩; have B3 : Hid (Below wr.heap.size wr w3) := b3; have P3 : Hid (PlB w n l P K2 (.slice la l.length lc) w3) := HP2.out.1.any b3; obtain ⟨cw, fw⟩ := CK.out w3 b3; clear b3 ck)
                | (go_at_call 88; refine (LK.out _ B3.out).mono ?_; rintro e w4 ⟨rfl, b4⟩; have P4 : Hid (PlB w n l P (K2.set x r) (.slice la l.length lc) (w4.setCell ⟨w.heap.size + 3, x, none⟩ (.int .i64 (r : Int)))) := (P3.out.any b4).wait x r; obtain ⟨cw2, fw2⟩ := CK.out w4 (B3.out.trans (b4.mono B3.out.size)); have cw3 := SC4.out w4 (P3.out.any b4); clear b4 cw fw))
              go_roundw
              case rel => exact ⟨x + 1, K2.set x r, by omega, by go_num, rfl, P4.out, HW3.out, HC2.out⟩
              case measure => simp [intOf]; omega
        · obtain rfl : x = n := by omega
          have xlt : ¬ (x : Int) < (x : Int) := by omega
          have HFin : Hid (IL wr (.slice la l.length lc) (nI R.1) ∧ (∀ j, (Value.slice la l.length lc).ownBlock = some j → w.heap.size ≤ j) ∧ Below w.heap.size w wr) := by
            have e1 : R = (l, P) := by
              rw [← HF.out]
              obtain ⟨f, hf⟩ : ∃ f, x - l.length = f + 1 := ⟨x - l.length - 1, by omega⟩
              rw [hf, plcF, nxB_none hcd]
            rw [e1]
            exact ⟨hP.il, fun j hj => by have := hP.own j hj; omega, hP.bel⟩
          clear hP hW hcd
          go_wp2
          go_ret
          exact ⟨_, rfl, by rw [HPU.out]; exact HFin.out.1, HFin.out.2.1, HFin.out.2.2⟩
    · have llt : ¬ (l.length : Int) < (n : Int) := by omega
      have HFin : Hid (IL wr (.slice la l.length lc) (nI R.1) ∧ (∀ j, (Value.slice la l.length lc).ownBlock = some j → w.heap.size ≤ j) ∧ Below w.heap.size w wr) := by
        rw [show n - l.length = 0 by omega] at hF
        have e1 : R = (l, P) := hF.symm
        rw [e1]
        exact ⟨hP.il, fun j hj => by have := hP.own j hj; omega, hP.bel⟩
      clear hP hW hF
      go_wp2
      go_ret
      exact ⟨_, rfl, by rw [HPU.out]; exact HFin.out.1, HFin.out.2.1, HFin.out.2.2⟩
end Go.Proofs.YtcgghlaifmlpiaaGreatDoor
