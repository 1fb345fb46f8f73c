import Derived.Test.YtcgghlaifmlpiaaGreatDoorBC3ToBC5
namespace Go.Proofs.YtcgghlaifmlpiaaGreatDoor
set_option linter.unusedVariables false
open Go.RowKit Go.Shelf

theorem repl_snocL (k : Nat) (R : List Bool) : List.replicate k R ++ [R] = List.replicate (k + 1) R := by
  rw [List.replicate_succ']
theorem MyR.atk {B r n x : Nat} {w wr : World} {ks : List Nat} {Rs : List (List Bool)} (h : MyR B r n x w ks Rs wr) {j : Nat} (hj : j < x) : ∃ k, ks[j]? = some k ∧ Rs[j]? = some (Rs.getD j []) ∧ (Rs.getD j []).length = n ∧ wr.cell? ⟨B, j, none⟩ = some (.slice (some ⟨k, 0, none⟩) n n) ∧ ∀ y, y < n → wr.cell? ⟨k, y, none⟩ = some (.bool ((Rs.getD j []).getD y false)) ∧ wr.frozen? ⟨k, y, none⟩ = false := by
  obtain ⟨k, R, hk, hR, hRe, hl, hc, hb⟩ := h.at hj
  subst hRe
  exact ⟨k, hk, hR, hl, hc, fun y hy => boR_cell hb (by omega)⟩
/-- What the page's back answers. -/
def BkA (w : World) (E : List (Int × Int)) (n x sz : Nat) (e : Ending) (w' : World) : Prop := Below w.heap.size w w' ∧ ∃ Cs, CnR E n x sz Cs ∧ ((¬ WkG (EdE E) x sz x ∧ e = .returned (.slice none 0 0)) ∨ (WkG (EdE E) x sz x ∧ ∃ v, e = .returned v ∧ LBs w (nI (bkC E n Cs sz x)) v w'))
set_option maxRecDepth 100000 in
set_option maxHeartbeats 16000000 in
theorem back_R {w : World} {n x sz : Nat} (hn : n ≤ 4096) (hx : x < n) (hs1 : 0 < sz) (hs : sz ≤ n) (ea : Option Addr) (ec : Nat) (E : List (Int × Int)) (hE : PrsB w ea E) (hEl : E.length ≤ 140737488355328) (hok : E.all (okE n) = true) :
    Calls Tryz.prog 92 #[.int .i64 (n : Int), .slice ea E.length ec, .int .i64 (x : Int), .int .i64 (sz : Int)] w (BkA w E n x sz) := by
  have HE : Hid (PrsB w ea E) := hE
  have HOK : Hid (∀ p ∈ E, okE n p = true) := fun p hp => List.all_eq_true.1 hok p hp
  have HOA : Hid (E.all (okE n) = true) := hok
  have hmk := make_blR (sz + 1) (by omega) w
  have M0 : Hid (MyR w.heap.size (sz + 1) n 0 w [] (List.replicate 0 (List.replicate n false)) (w.alloc (.cells (madeCells #[.slice none 0 0] (sz + 1)) 91))) := ⟨by rw [heap_alloc_new, made_listR]; rfl, rfl, rfl, Nat.zero_le _, List.nodup_nil, fun j k R hk => by simp at hk, below_alloc w _⟩
  have e1 : ((sz + 1 : Nat) : Int) = (sz : Int) + 1 := by omega
  rw [e1] at hmk
  have e2 : IntKind.i64.wrap ((sz : Int) + 1) = (sz : Int) + 1 := by rw [IntKind.wrap_i64]; omega
  clear hE hok e1
  go_enter Tryz.func92, Tryz.ntmps92
  go_wp2
  clear hmk e2
  go_loopw [10] (fun z wr => ∃ (k : Nat) (ks : List Nat), k ≤ sz + 1 ∧ z = .int .i64 (k : Int) ∧ MyR w.heap.size (sz + 1) n k w ks (List.replicate k (List.replicate n false)) wr) (fun z _ => sz + 1 - (intOf z).toNat)
  case atStart => exact ⟨0, [], Nat.zero_le _, rfl, M0.out⟩
  case round =>
    clear M0
    obtain ⟨k, ks, hk, rfl, hM⟩ := hrel
    by_cases hlt : k ≤ sz
    · have klt : (k : Int) ≤ (sz : Int) := by omega
      have kl1 : (k : Int) < (sz : Int) + 1 := by omega
      have kl2 : k < sz + 1 := by omega
      have hmk := make_boR n (by omega) wr
      obtain ⟨co, fo⟩ := hM.old (show k < sz + 1 by omega) (.cells (madeCells #[.bool false] n) 4)
      have hM1 := hM.more (show k < sz + 1 by omega)
      rw [repl_snocL] at hM1
      have HM1 : Hid (MyR w.heap.size (sz + 1) n (k + 1) w (ks ++ [wr.heap.size]) (List.replicate (k + 1) (List.replicate n false)) ((wr.alloc (.cells (madeCells #[.bool false] n) 4)).setCell ⟨w.heap.size, k, none⟩ (.slice (some ⟨wr.heap.size, 0, none⟩) n n))) := hM1
      clear hM hM1
      go_wp2
      go_roundw
      case rel => exact ⟨k + 1, _, by omega, by go_num, HM1.out⟩
      case measure => simp [intOf]; omega
    · have klt : ¬ (k : Int) ≤ (sz : Int) := by omega
      obtain rfl : k = sz + 1 := by omega
      obtain ⟨k0, hk0, hR0, _, ck0, cc0⟩ := hM.atk (j := 0) (by omega)
      obtain ⟨d0, d1⟩ := cc0 x hx
      have hM1 := hM.put (z := x) hk0 hR0 true
      have e3 : (List.replicate (sz + 1) (List.replicate n false)).getD 0 [] = List.replicate n false := by simp [List.getD]
      rw [e3] at hM1
      have HM1 : Hid (MyR w.heap.size (sz + 1) n (sz + 1) w ks ((List.replicate (sz + 1) (List.replicate n false)).set 0 ((List.replicate n false).set x true)) (wr.setCell ⟨k0, x, none⟩ (.bool true))) := hM1
      have z1 : (0 : Int) < (sz : Int) + 1 := by omega
      have z2 : 0 < sz + 1 := by omega
      have xi : (x : Int) < (n : Int) := by omega
      have HHX : Hid (x < n) := hx
      clear hM hM1 hk0 hR0 cc0 e3 hlt klt hk
      generalize ((List.replicate (sz + 1) (List.replicate n false)).getD 0 []).getD x false = ov at *
      go_wp2
      clear ck0 d0 d1
      obtain ⟨wa, rfl⟩ : ∃ wa : World, wa = wr := ⟨_, rfl⟩
      go_loopw [11] (fun z wr => ∃ (k : Nat) (Rs : List (List Bool)), k ≤ sz ∧ z = .int .i64 ((k : Int) + 1) ∧ MyR w.heap.size (sz + 1) n (sz + 1) w ks Rs wr ∧ CbI E n x sz (k + 1) 0 Rs) (fun z _ => sz + 1 - (intOf z).toNat)
      case atStart => exact ⟨0, _, by omega, by simp, HM1.out, CbI.start⟩
      case round =>
        clear HM1
        obtain ⟨k, Rs, hk, rfl, hM, hC⟩ := hrel
        by_cases hlt : k + 1 ≤ sz
        · have klt : (k : Int) + 1 ≤ (sz : Int) := by omega
          have HS : Hid (MyR w.heap.size (sz + 1) n (sz + 1) w ks Rs wr ∧ CbI E n x sz (k + 1) 0 Rs) := ⟨hM, hC⟩
          clear hM hC
          go_wp2
          go_loopw [12] (fun z wr => ∃ (i : Nat) (Rs : List (List Bool)), i ≤ E.length ∧ z = .int .i64 (i : Int) ∧ MyR w.heap.size (sz + 1) n (sz + 1) w ks Rs wr ∧ CbI E n x sz (k + 1) i Rs) (fun z _ => E.length - (intOf z).toNat)
          case atStart => exact ⟨0, Rs, Nat.zero_le _, rfl, HS.out.1, HS.out.2⟩
          case round =>
            clear HS
            obtain ⟨i, Rs, hi, rfl, hM, hC⟩ := hrel
            have hbel := hM.bel
            by_cases hli : i < E.length
            · have ilt : (i : Int) < (E.length : Int) := by omega
              obtain ⟨eb, eo, hea, hbl, hce⟩ := HE.out (by intro q; rw [q] at hli; simp at hli)
              obtain ⟨cw0, cw1⟩ := hce i hli
              have hEi : E[i]? = some (E.getD i (0, 0)) := by rw [List.getD_eq_getElem?_getD, List.getElem?_eq_getElem hli]; rfl
              have hoe := HOK.out _ (List.mem_of_getElem? hEi)
              generalize E.getD i (0, 0) = p at *
              obtain ⟨pa, pb⟩ := p
              unfold okE at hoe
              simp only [Bool.and_eq_true, decide_eq_true_iff] at hoe
              obtain ⟨a, rfl⟩ : ∃ a : Nat, pa = (a : Int) := ⟨pa.toNat, by omega⟩
              obtain ⟨b, rfl⟩ : ∃ b : Nat, pb = (b : Int) := ⟨pb.toNat, by omega⟩
              have han : a < n := by omega
              have hbn : b < n := by omega
              have hbi : (b : Int) < (n : Int) := by omega
              have hai : (a : Int) < (n : Int) := by omega
              simp only at cw0 cw1
              have c0 := (hbel.cell (p := ⟨eb, eo + i * 2, none⟩) hbl).trans cw0
              have c1 := (hbel.cell (p := ⟨eb, eo + i * 2 + 1, none⟩) hbl).trans cw1
              have HC1 : Hid (w.cell? ⟨eb, eo + i * 2, none⟩ = some (.int .i64 (a : Int)) ∧ eb < w.heap.size) := ⟨cw0, hbl⟩
              subst hea
              clear hce hbel hoe cw0 cw1 hbl
              obtain ⟨k1, hk1, hR1, hl1, ck1, cc1⟩ := hM.atk (j := k) (by omega)
              obtain ⟨k2, hk2, hR2, hl2, ck2, cc2⟩ := hM.atk (j := k + 1) (by omega)
              obtain ⟨d0, _⟩ := cc1 b hbn
              obtain ⟨d1, d2⟩ := cc2 a han
              have hbit := hC.bit k b (by omega) hbn
              have kw1 : IntKind.i64.wrap ((k : Int) + 1 - 1) = (k : Int) := by rw [IntKind.wrap_i64]; omega
              have k0i : (0 : Int) ≤ (k : Int) := by omega
              have kl1 : (k : Int) < (sz : Int) + 1 := by omega
              have kl2 : k < sz + 1 := by omega
              have kl3 : (k : Int) + 1 < (sz : Int) + 1 := by omega
              have kl4 : k + 1 < sz + 1 := by omega
              cases hc : (Rs.getD k []).getD b false with
              | false =>
                rw [hc] at d0
                have HN : Hid (MyR w.heap.size (sz + 1) n (sz + 1) w ks Rs wr ∧ CbI E n x sz (k + 1) (i + 1) Rs) := ⟨hM, hC.skip hEi (by
                  rintro ⟨_, b', hb', hw⟩
                  have : b' = b := by simp only at hb'; omega
                  subst this
                  have hbit2 := hbit.2 (.inl ⟨Nat.lt_succ_self k, hw⟩)
                  rw [hc] at hbit2; cases hbit2)⟩
                clear hM hC hEi hbit hk1 hk2 hR1 hR2 hl1 hl2 cc1 cc2 hc
                go_wp2
                go_quiet (fail)
                go_wp2
                go_roundw
                case rel => exact ⟨i + 1, Rs, by omega, by go_num, HN.out.1.any (below_drewN (Below.refl _ _) _), HN.out.2⟩
                case measure => simp [intOf]; omega
              | true =>
                rw [hc] at d0
                have hwb : WkG (EdE E) x k b := by
                  rcases hbit.1 hc with ⟨_, q⟩ | ⟨q, _⟩
                  · exact q
                  · omega
                by_cases hxa : x ≤ a
                · have xai : (x : Int) ≤ (a : Int) := by omega
                  have HP : Hid (CbI E n x sz (k + 1) (i + 1) (Rs.set (k + 1) ((Rs.getD (k + 1) []).set a true))) := hC.mark (by omega) hR2 hEi han hxa hwb
                  have HS : Hid (MyR w.heap.size (sz + 1) n (sz + 1) w ks Rs wr ∧ ks[k + 1]? = some k2 ∧ Rs[k + 1]? = some (Rs.getD (k + 1) [])) := ⟨hM, hk2, hR2⟩
                  clear hM hC hEi hbit hk1 hk2 hR1 hR2 hl1 hl2 cc1 cc2 hc hwb
                  generalize (Rs.getD (k + 1) []).getD a false = oa at *
                  go_wp2
                  go_quiet (fail)
                  go_wp2
                  refine wp_world (fun w2 => Below wr.heap.size wr w2) (below_drewN (Below.refl _ _) _) fun w2 b2 => ?_
                  have S2 : Hid (MyR w.heap.size (sz + 1) n (sz + 1) w ks Rs w2) := HS.out.1.any b2
                  have f1 := (S2.out.bel.cell (p := ⟨eb, eo + i * 2, none⟩) HC1.out.2).trans HC1.out.1
                  obtain ⟨k3, hk3, _, _, f2, f3⟩ := S2.out.atk (j := k + 1) (by omega)
                  obtain rfl : k2 = k3 := Option.some.inj (HS.out.2.1.symm.trans hk3)
                  obtain ⟨f4, f5⟩ := f3 a han
                  have S3 : Hid (MyR w.heap.size (sz + 1) n (sz + 1) w ks (Rs.set (k + 1) ((Rs.getD (k + 1) []).set a true)) (w2.setCell ⟨k2, a, none⟩ (.bool true)).drew) := (S2.out.put (z := a) hk3 HS.out.2.2 true).any (Below.refl _ _).drew
                  clear c0 c1 ck1 ck2 d0 d1 d2 hk3 f3 b2 S2 HS
                  generalize (Rs.getD (k + 1) []).getD a false = ob at *
                  go_wp2
                  go_region
                  clear f1 f2 f4 f5
                  generalize (w2.setCell ⟨k2, a, none⟩ (.bool true)).drew = w3 at *
                  go_wp2
                  go_roundw
                  case rel => exact ⟨i + 1, _, by omega, by go_num, S3.out, HP.out⟩
                  case measure => simp [intOf]; omega
                · have xai : ¬ (x : Int) ≤ (a : Int) := by omega
                  have xad : decide ((x : Int) ≤ (a : Int)) = false := decide_eq_false xai
                  have xad2 : decide (x ≤ a) = false := decide_eq_false hxa
                  have HN : Hid (MyR w.heap.size (sz + 1) n (sz + 1) w ks Rs wr ∧ CbI E n x sz (k + 1) (i + 1) Rs) := ⟨hM, hC.skip hEi (by
                    rintro ⟨q, _⟩
                    exact xai q)⟩
                  clear hM hC hEi hbit hk1 hk2 hR1 hR2 hl1 hl2 cc1 cc2 hc hwb xai hxa
                  go_wp2
                  go_quiet (fail)
                  go_wp2
                  go_roundw
                  case rel => exact ⟨i + 1, Rs, by omega, by go_num, HN.out.1.any (below_drewN (Below.refl _ _) _), HN.out.2⟩
                  case measure => simp [intOf]; omega
            · have ilt : ¬ (i : Int) < (E.length : Int) := by omega
              have hie : i = E.length := by omega
              have HN : Hid (MyR w.heap.size (sz + 1) n (sz + 1) w ks Rs wr ∧ CbI E n x sz (k + 1 + 1) 0 Rs) := ⟨hM, CbI.next (Nat.succ_pos k) HOA.out (by rw [← hie]; exact hC)⟩
              have kw2 : IntKind.i64.wrap ((k : Int) + 1 + 1) = (k : Int) + 1 + 1 := by rw [IntKind.wrap_i64]; omega
              clear hM hC hie hbel
              go_wp2
              go_roundw
              case rel => exact ⟨k + 1, Rs, by omega, by go_num, HN.out.1, HN.out.2⟩
              case measure => simp [intOf]; omega
        · have klt : ¬ (k : Int) + 1 ≤ (sz : Int) := by omega
          obtain rfl : k = sz := by omega
          have hCn := hC.fin
          obtain ⟨k1, hk1, hR1, hl1, ck1, cc1⟩ := hM.atk (j := k) (by omega)
          obtain ⟨d0, _⟩ := cc1 x hx
          have hbit := hCn.bit k x (Nat.le_refl _) hx
          have HS : Hid (MyR w.heap.size (k + 1) n (k + 1) w ks Rs wr ∧ CnR E n x k Rs) := ⟨hM, hCn⟩
          have kl1 : (k : Int) < (k : Int) + 1 := by omega
          have kl2 : k < k + 1 := by omega
          have hsi : (0 : Int) < (k : Int) := by omega
          cases hc : (Rs.getD k []).getD x false with
          | false =>
            rw [hc] at d0
            have HNW : Hid (¬ WkG (EdE E) x k x) := fun q => by
              have := hbit.2 q
              rw [hc] at this; cases this
            clear hM hC hCn hbit hk1 hR1 hl1 cc1 hc
            go_wp2
            go_ret
            exact ⟨HS.out.1.bel, Rs, HS.out.2, .inl ⟨HNW.out, rfl⟩⟩
          | true =>
            rw [hc] at d0
            have HW : Hid (WkG (EdE E) x k x) := hbit.1 hc
            clear hM hC hCn hbit hk1 hR1 hl1 cc1 hc
            obtain ⟨wb, rfl⟩ : ∃ wb : World, wb = wr := ⟨_, rfl⟩
            go_wp2
            clear ck1 d0
            go_loopw [13, 14, 15] (fun v z q wr => ∃ (m a : Nat) (pre : List Nat), m ≤ k ∧ z = .int .i64 (a : Int) ∧ q = .int .i64 (m : Int) ∧ a < n ∧ MyR w.heap.size (k + 1) n (k + 1) w ks Rs wr ∧ IRo wr v (nI pre) ∧ (∀ j, v.ownBlock = some j → w.heap.size ≤ j) ∧ pre ++ bkC E n Rs m a = bkC E n Rs k x ∧ pre.length + m = k ∧ WkG (EdE E) x m a) (fun _ _ q _ => (intOf q).toNat)
            case atStart => exact ⟨k, x, [], Nat.le_refl _, rfl, rfl, HHX.out, HS.out.1, RO.nil _, (fun j hj => by simp [Value.ownBlock] at hj), rfl, by simp, HW.out⟩
            case round =>
              have HCN : Hid (CnR E n x k Rs) := HS.out.2
              clear HS
              obtain ⟨m, a, pre, hm, rfl, rfl, han, hM, hT, hown, hpre, hpl, hwa⟩ := hrel
              obtain ⟨va, vc, rfl, _⟩ := hT.len
              cases m with
              | zero =>
                have HX : Hid (LBs w (nI (bkC E n Rs k x)) (.slice va (nI pre).length vc) wr) := by
                  have e : pre = bkC E n Rs k x := by rw [← hpre]; simp [bkC]
                  refine ⟨?_, hown, hM.bel⟩
                  have := hT.il
                  rw [e] at this ⊢
                  exact this
                clear hM hT hown hpre hwa
                generalize (nI pre).length = pn at *
                go_wp2
                go_ret
                exact ⟨HX.out.bel, Rs, HCN.out, .inr ⟨HW.out, _, rfl, HX.out⟩⟩
              | succ m =>
                have HP : Hid ((pre ++ [a]) ++ bkC E n Rs m ((nxC E n Rs m a).getD 0) = bkC E n Rs k x ∧ (pre ++ [a]).length + m = k) := ⟨by rw [← hpre]; simp [bkC], by simp; omega⟩
                obtain ⟨_, b, heb, hwb⟩ := hwa
                have hbn : b < n := by
                  have := HOK.out _ heb
                  unfold okE at this
                  simp only [Bool.and_eq_true, decide_eq_true_iff] at this
                  omega
                have HNX : Hid (((a : Int), (b : Int)) ∈ E ∧ (Rs.getD m []).getD b false = true) := ⟨heb, (HCN.out.bit m b (by omega) hbn).2 hwb⟩
                have HTW : Hid (MyR w.heap.size (k + 1) n (k + 1) w ks Rs wr ∧ IRo wr (.slice va (nI pre).length vc) (nI pre) ∧ ∀ j, (Value.slice va (nI pre).length vc).ownBlock = some j → w.heap.size ≤ j) := ⟨hM, hT, hown⟩
                have HNI : Hid (nI (pre ++ [a]) = nI pre ++ [(a : Int)]) := by show _ = _; unfold nI; rw [List.map_append]; rfl
                have LEN : Hid ((nI pre).length ≤ 1000000000) := by show _ ≤ _; rw [nI_len]; omega
                have mpi : (0 : Int) < (m : Int) + 1 := by omega
                clear hM hT hown hpre heb hwb hpl
                generalize nI pre = fl at *
                obtain ⟨fn, hfn⟩ : ∃ fn, fl.length = fn := ⟨_, rfl⟩
                rw [hfn] at HTW ⊢
                clear hfn
                simp only [Int.natCast_add, Int.cast_ofNat_Int]
                go_wp2_with (at_builtin; refine wpList_ro_append rkIntR rfl _ _ rfl (.slice va fn vc) fl rfl (HTW.out.2.1.later (below_alloc _ _)) wr.heap.size 1 (a : Int) rfl (inR_cell wr (a : Int) _) LEN.out ?_)
                intro a5 n5 c5 w5 t5 g5
                have H5 : Hid (MyR w.heap.size (k + 1) n (k + 1) w ks Rs w5 ∧ IRo w5 (.slice a5 n5 c5) (nI (pre ++ [a])) ∧ ∀ j, (Value.slice a5 n5 c5).ownBlock = some j → w.heap.size ≤ j) := ⟨(HTW.out.1.any (below_alloc _ _)).grewG (by decide) (by decide) (HTW.out.2.1.later (below_alloc _ _)) HTW.out.2.2 g5, by rw [HNI.out]; exact t5, Grew.own g5 (Nat.le_trans HTW.out.1.bel.size (below_alloc wr _).size) HTW.out.2.2⟩
                clear t5 g5 HTW LEN HNI
                go_wp2
                go_loopw [16, 17] (fun y z wr => ∃ (nx : Int) (i : Nat), i ≤ E.length ∧ y = .int .i64 nx ∧ z = .int .i64 (i : Int) ∧ Below w5.heap.size w5 wr ∧ NxI E n (Rs.getD m []) a i nx ∧ nx < (n : Int)) (fun _ z _ => E.length - (intOf z).toNat)
                case atStart => exact ⟨-1, 0, Nat.zero_le _, rfl, rfl, Below.refl _ _, NxI.start, by omega⟩
                case round =>
                  obtain ⟨nx, i, hi, rfl, rfl, hb5, hNx, hnx⟩ := hrel
                  by_cases hli : i < E.length
                  · have ilt : (i : Int) < (E.length : Int) := by omega
                    obtain ⟨eb, eo, hea, hbl, hce⟩ := HE.out (by intro q; rw [q] at hli; simp at hli)
                    obtain ⟨cw0, cw1⟩ := hce i hli
                    have hEi : E[i]? = some (E.getD i (0, 0)) := by rw [List.getD_eq_getElem?_getD, List.getElem?_eq_getElem hli]; rfl
                    have hoe := HOK.out _ (List.mem_of_getElem? hEi)
                    have hMr := H5.out.1.any hb5
                    have hbel := hMr.bel
                    generalize E.getD i (0, 0) = p at *
                    obtain ⟨pa, pb⟩ := p
                    unfold okE at hoe
                    simp only [Bool.and_eq_true, decide_eq_true_iff] at hoe
                    obtain ⟨c, rfl⟩ : ∃ c : Nat, pa = (c : Int) := ⟨pa.toNat, by omega⟩
                    obtain ⟨d, rfl⟩ : ∃ d : Nat, pb = (d : Int) := ⟨pb.toNat, by omega⟩
                    have hdn : d < n := by omega
                    have hdi : (d : Int) < (n : Int) := by omega
                    simp only at cw0 cw1
                    have c0 := (hbel.cell (p := ⟨eb, eo + i * 2, none⟩) hbl).trans cw0
                    have c1 := (hbel.cell (p := ⟨eb, eo + i * 2 + 1, none⟩) hbl).trans cw1
                    subst hea
                    obtain ⟨k2, _, _, _, ck2, cc2⟩ := hMr.atk (j := m) (by omega)
                    obtain ⟨d0, _⟩ := cc2 d hdn
                    have mw1 : IntKind.i64.wrap ((m : Int) + 1 - 1) = (m : Int) := by rw [IntKind.wrap_i64]; omega
                    have m0i : (0 : Int) ≤ (m : Int) := by omega
                    have ml1 : (m : Int) < (k : Int) + 1 := by omega
                    have ml2 : m < k + 1 := by omega
                    have HB : Hid (∀ d, Below w5.heap.size w5 (wr.drewN d)) := fun d => below_drewN hb5 d
                    clear hce hbel hoe cw0 cw1 hbl cc2 hMr hb5
                    by_cases hca : c = a
                    · obtain rfl : a = c := hca.symm
                      clear hca
                      cases hc : (Rs.getD m []).getD d false with
                      | false =>
                        rw [hc] at d0
                        have HN : Hid (NxI E n (Rs.getD m []) a (i + 1) nx) := hNx.skip hEi (.inr (.inl (by simpa using hc)))
                        clear hNx hEi hc
                        go_wp2
                        go_quiet (fail)
                        go_wp2
                        go_roundw
                        case rel => exact ⟨nx, i + 1, by omega, rfl, by go_num, HB.out _, HN.out, hnx⟩
                        case measure => simp [intOf]; omega
                      | true =>
                        rw [hc] at d0
                        by_cases hn0 : nx < 0
                        · have n0 : decide (nx < 0) = true := decide_eq_true hn0
                          have HN : Hid (NxI E n (Rs.getD m []) a (i + 1) (d : Int)) := hNx.take hEi hdn hc (.inl hn0)
                          clear hNx hEi hc hn0
                          go_wp2
                          go_quiet (fail)
                          go_wp2
                          go_roundw
                          case rel => exact ⟨(d : Int), i + 1, by omega, rfl, by go_num, HB.out _, HN.out, hdi⟩
                          case measure => simp [intOf]; omega
                        · have n0 : decide (nx < 0) = false := decide_eq_false hn0
                          by_cases hdx : (d : Int) < nx
                          · have n1 : decide ((d : Int) < nx) = true := decide_eq_true hdx
                            have HN : Hid (NxI E n (Rs.getD m []) a (i + 1) (d : Int)) := hNx.take hEi hdn hc (.inr hdx)
                            clear hNx hEi hc hn0 hdx
                            go_wp2
                            go_quiet (fail)
                            go_wp2
                            go_roundw
                            case rel => exact ⟨(d : Int), i + 1, by omega, rfl, by go_num, HB.out _, HN.out, hdi⟩
                            case measure => simp [intOf]; omega
                          · have n1 : decide ((d : Int) < nx) = false := decide_eq_false hdx
                            have HN : Hid (NxI E n (Rs.getD m []) a (i + 1) nx) := hNx.skip hEi (.inr (.inr ⟨by omega, by show nx ≤ (d : Int); omega⟩))
                            clear hNx hEi hc hn0 hdx
                            go_wp2
                            go_quiet (fail)
                            go_wp2
                            go_roundw
                            case rel => exact ⟨nx, i + 1, by omega, rfl, by go_num, HB.out _, HN.out, hnx⟩
                            case measure => simp [intOf]; omega
                    · have ca1 : ((c : Int) == (a : Int)) = false := by rw [beq_eq_false_iff_ne]; omega
                      have ca2 : (c == a) = false := by rw [beq_eq_false_iff_ne]; exact hca
                      have HN : Hid (NxI E n (Rs.getD m []) a (i + 1) nx) := hNx.skip hEi (.inl (by show (c : Int) ≠ (a : Int); omega))
                      clear hNx hEi hca
                      go_wp2
                      go_quiet (fail)
                      go_wp2
                      go_roundw
                      case rel => exact ⟨nx, i + 1, by omega, rfl, by go_num, HB.out _, HN.out, hnx⟩
                      case measure => simp [intOf]; omega
                  · have ilt : ¬ (i : Int) < (E.length : Int) := by omega
                    have hie : i = E.length := by omega
                    rw [hie] at hNx
                    obtain ⟨q1, q2, q3, q4⟩ := hNx.fin HNX.out.1 HNX.out.2
                    have HN : Hid (MyR w.heap.size (k + 1) n (k + 1) w ks Rs wr ∧ IRo wr (.slice a5 n5 c5) (nI (pre ++ [a])) ∧ WkG (EdE E) x m ((nxC E n Rs m a).getD 0)) := ⟨H5.out.1.any hb5, H5.out.2.1.later hb5, (HCN.out.bit m _ (by omega) q2).1 q4⟩
                    have mw1 : IntKind.i64.wrap ((m : Int) + 1 - 1) = (m : Int) := by rw [IntKind.wrap_i64]; omega
                    subst q1
                    clear hNx hie hb5 q3 q4
                    generalize (nxC E n Rs m a).getD 0 = y at *
                    go_wp2
                    go_roundw
                    case rel => exact ⟨m, y, pre ++ [a], by omega, rfl, by first | rfl | go_num, q2, HN.out.1, HN.out.2.1, H5.out.2.2, HP.out.1, HP.out.2, HN.out.2.2⟩
                    case measure => simp [intOf]
end Go.Proofs.YtcgghlaifmlpiaaGreatDoor
