import Derived.Test.YtcgghlaifmlpiaaGreatDoorKBaseToKNil
import Derived.Test.YtcgghlaifmlpiaaGreatDoorHIntToBGG
import Derived.Deep.RegionWith
namespace Go.Proofs.YtcgghlaifmlpiaaGreatDoor
set_option linter.unusedVariables false
open Go.RowKit Go.Maps


/-- The mark of place k in list i. -/
def markPN (i k : Nat) : Int := -1 - 100003 * ((i : Int) + 1) - 7 * (k : Int)
def mkPr (i k : Nat) : List Value := [.int .i64 (markPN i k), .int .i64 0]
set_option maxRecDepth 100000 in
set_option maxHeartbeats 1000000 in
theorem markpr_ik (i k : Nat) (w : World) (hi : i ≤ 100000000) (hk : k ≤ 1000000000) :
    Calls Tryz.prog 29 #[.int .i64 i, .int .i64 k] w fun e w' => e = .returned (.agg #[.int .i64 (markPN i k), .int .i64 0]) ∧ Below w.heap.size w w' := by
  go_enter Tryz.func29, Tryz.ntmps29
  go_wp2
  go_returns
  exact ⟨rfl, by go_grown⟩
theorem enter_markP (args : Array Value) (w : World) : (callFunc 29 args).run Tryz.prog w = .ok (.enter 29 args) w := by kernel_rfl
theorem step_markP {ops : Array Oper} {o : Oper} {a : Act} {w : World} {K : Act → World → Prop} {Q : Exit → Act → World → Prop} {E : Prop}
    (hg : o.guard = none) (x y : Operand) (hop : o.op = Op.call { callee := Callee.value (Operand.func 29), args := #[x, y], argTypes := #[3, 3] })
    (i k : Nat) (hx : a.eval x = .int .i64 i) (hy : a.eval y = .int .i64 k) (hi : i ≤ 100000000) (hk : k ≤ 1000000000)
    (hK : ∀ w', Below w.heap.size w w' → K (a.put o.dst (.agg #[.int .i64 (markPN i k), .int .i64 0])) w') :
    if Region.wanted o (yielded ops a.tmps) = true then Oper.wp Tryz.prog o a w K Q else E := by
  have hw : Region.wanted o (yielded ops a.tmps) = true := by simp [Region.wanted, hg]
  rw [if_pos hw]
  have hf : a.eval (Operand.func 29) = .func (.func 29) #[] #[] := rfl
  have hcf := enter_markP #[.int .i64 i, .int .i64 k] w
  have e : (execOp a.eval o).run Tryz.prog w = .ok (.enter 29 #[.int .i64 i, .int .i64 k]) w := by
    simp [execOp, hop, resolve, invoke, hx, hy, hf, Deferred.ofValue, hcf]
  show o.upon Tryz.prog a K Q ((execOp a.eval o).run Tryz.prog w)
  rw [e, Oper.upon_enter]
  refine (markpr_ik i k w hi hk).mono ?_
  rintro e w' ⟨rfl, hb⟩
  exact hK w' hb
theorem infoPRK : SliceInfo 22 := sliceInfo_of (by kernel_rfl)
theorem mkPr_len : ∀ i k, (mkPr i k).length = 2 := fun _ _ => rfl
set_option maxRecDepth 100000 in
set_option maxHeartbeats 4000000 in
theorem apart_pairs (q : Nat) (lv : Value) (L : List LE) (X : Nat → List Value) (w : World) (hq : w.cell? ⟨q, 8, none⟩ = some lv) (hl : HL 22 w lv (L.map LE.v)) (hrow : ∀ j (h : j < L.length), w.ownsRow 0 82 2 L[j].v L[j].n (X j)) (hnd : ∀ j j' (h : j < L.length) (h' : j' < L.length), j ≠ j' → L[j].g ≠ L[j'].g) (hlen : L.length ≤ 100000000) (hn : ∀ e ∈ L, e.n ≤ 100000000) :
    Calls Tryz.prog 65 #[.pointer (some ⟨q, 0, none⟩)] w fun e w' => e = .returned (.bool true) ∧ KFr L w w' := by
  obtain ⟨i0, hi, hz0, hz1, hz2⟩ := infoPrB_parts
  have PS : Hid (P1I 82 2 mkPr w L 0 0 w) := P1I.start hrow hnd
  have NE : Hid (∀ w', KFr L w w' → HL 22 w' lv (L.map LE.v)) := fun w' hf => hl.setK hf fun e he => by
    obtain ⟨j, hj, rfl⟩ := List.getElem_of_mem he
    obtain ⟨cur, h1, _⟩ := row_block (hrow j hj)
    exact hl.ne h1 (by decide)
  have HN : Hid (∀ {j eg en ec : Nat}, L[j]? = some ⟨eg, en, ec⟩ → en ≤ 100000000) := fun {j eg en ec} he => hn ⟨eg, en, ec⟩ (List.mem_of_getElem? he)
  have LT : Hid (∀ z, lv.ownBlock = some z → z < w.heap.size) := hl.lt
  obtain ⟨la, lc, rfl⟩ := hl.slice
  rw [List.length_map] at hq NE LT
  clear hrow hnd hn hl
  go_enter Tryz.func65, Tryz.ntmps65
  go_wp2
  go_loopw [4] (fun i wr => ∃ j : Nat, i = .int .i64 j ∧ j ≤ L.length ∧ P1I 82 2 mkPr w L j 0 wr) (fun i _ => L.length - (intOf i).toNat)
  case atStart => exact ⟨0, rfl, Nat.zero_le _, PS.out⟩
  case round =>
    clear PS hq
    obtain ⟨j, rfl, hj, hP⟩ := hrel
    by_cases hlt : j < L.length
    · have hL := NE.out wr hP.fr
      obtain ⟨lb, rfl⟩ : ∃ lb, la = some ⟨lb, 0, none⟩ := by
        obtain ⟨g, c, e, _⟩ := hL.at j L[j].v (by simp [hlt])
        simp only [Value.slice.injEq] at e
        exact ⟨g, e.1⟩
      obtain ⟨eg, en, ec, HE, hcl⟩ := le_at hL hlt
      have hen := HN.out HE.out
      go_wp2
      obtain ⟨wo, rfl⟩ : ∃ wo : World, wo = wr := ⟨_, rfl⟩
      go_loopw [5] (fun k wr => ∃ m : Nat, k = .int .i64 m ∧ m ≤ en ∧ P1I 82 2 mkPr w L j m wr) (fun k _ => en - (intOf k).toNat)
      case atStart => exact ⟨0, rfl, Nat.zero_le _, hP⟩
      case round =>
        clear hP hL hcl
        obtain ⟨m, rfl, hm, hP⟩ := hrel
        obtain ⟨_, _, _, HE2, hcl⟩ := le_at (NE.out wr hP.fr) hlt
        have := HE.out.symm.trans HE2.out
        simp only [Option.some.injEq, LE.mk.injEq] at this
        obtain ⟨rfl, rfl, rfl⟩ := this
        clear HE2
        by_cases hlm : m < en
        · have HP : Hid (P1I 82 2 mkPr w L j m wr) := hP
          have AF : Hid (∀ w4, Below wr.drew.heap.size wr.drew w4 → (∃ u, w4.cell? ⟨eg, m * 2, none⟩ = some u) ∧ (∃ u, w4.cell? ⟨eg, m * 2 + 1, none⟩ = some u) ∧ w4.frozen? ⟨eg, m * 2, none⟩ = false ∧ w4.frozen? ⟨eg, m * 2 + 1, none⟩ = false ∧ w4.cell? ⟨lb, j, none⟩ = some (.slice (some ⟨eg, 0, none⟩) en ec)) := fun w4 hb => by
            have h4 := HP.out.later (below_step (Below.refl _ _).drew hb)
            refine ⟨h4.cellE HE.out _ (by omega), h4.cellE HE.out _ (by omega), h4.freeE HE.out _, h4.freeE HE.out _, ?_⟩
            obtain ⟨_, _, _, HE2, hcl⟩ := le_at (NE.out w4 h4.fr) hlt
            have := HE.out.symm.trans HE2.out
            simp only [Option.some.injEq, LE.mk.injEq] at this
            obtain ⟨rfl, rfl, rfl⟩ := this
            exact hcl
          obtain ⟨⟨u0, cu0⟩, ⟨v0, cv0⟩, fu0, fv0, _⟩ := AF.out wr.drew (Below.refl _ _)
          clear hP
          go_wp2
          go_region_law (first
            | (refine step_markP (by rfl) _ _ (by rfl) j m (by rfl) (by rfl) (by omega) (by omega) ?_; intro w4 hb4; obtain ⟨⟨u4, cu4⟩, ⟨v4, cv4⟩, fu4, fv4, cl4⟩ := AF.out w4 hb4))
          all_goals go_wp2
          all_goals
            go_roundw
            case rel => exact ⟨m + 1, by go_num, by omega, (HP.out.later (below_step (Below.refl _ _).drew hb4)).set2E HE.out hlm _ _ rfl⟩
            case measure => simp [intOf]; omega
        · obtain rfl : m = en := by omega
          go_wp2
          go_roundw
          case rel => exact ⟨j + 1, by go_num, by omega, hP.nextE HE.out⟩
          case measure => simp [intOf]; omega
    · obtain rfl : j = L.length := by omega
      have F1 : Hid (KFr L w wr) := hP.fr
      have HP2 : Hid (P2 82 2 mkPr wr L [] ([] : List Value).length wr) := P2.start hP
      have NE2 : Hid (∀ w', KFr L wr w' → HL 22 w' (.slice la L.length lc) (L.map LE.v)) := fun w' hf => NE.out w' (F1.out.trans hf)
      have INF : Hid (Tryz.prog.info? 82 = some i0 ∧ i0.zero = some (.agg #[.int .i64 0, .int .i64 0]) ∧ i0.size = 2 ∧ i0.bytes = 16) := ⟨hi, hz0, hz1, hz2⟩
      clear hP NE LT hlt hj hi hz0 hz1 hz2
      go_wp2
      obtain ⟨w1, rfl⟩ : ∃ w1 : World, w1 = wr := ⟨_, rfl⟩
      go_loopw [6, 7] (fun gr i wr => ∃ gs : List Value, i = .int .i64 gs.length ∧ P2 82 2 mkPr w1 L gs gs.length wr ∧ HL 22 wr gr gs ∧ (∀ z, gr.ownBlock = some z → w1.heap.size ≤ z)) (fun _ i _ => L.length - (intOf i).toNat)
      case atStart => exact ⟨[], rfl, HP2.out, HL.nil _ _, fun z hz => by simp [Value.ownBlock] at hz⟩
      case round =>
        clear HP2
        obtain ⟨gs, rfl, hP, hG, hlo'⟩ := hrel
        have hlo : Hid _ := hlo'
        clear hlo'
        obtain ⟨ga, gc, rfl⟩ := hG.slice
        by_cases hlt : gs.length < L.length
        · have hL := NE2.out wr hP.fr
          obtain ⟨lb, rfl⟩ : ∃ lb, la = some ⟨lb, 0, none⟩ := by
            obtain ⟨g, c, e, _⟩ := hL.at gs.length L[gs.length].v (by simp [hlt])
            simp only [Value.slice.injEq] at e
            exact ⟨g, e.1⟩
          obtain ⟨eg, en, ec, HE, hcl⟩ := le_at hL hlt
          have hen := HN.out HE.out
          have HB : Hid (P2g 82 2 mkPr w1 L gs 0 (.slice (some ⟨eg, 0, none⟩) en ec) wr) := hP.beginE HE.out
          clear hP hL
          go_wp2
          obtain ⟨wo, rfl⟩ : ∃ wo : World, wo = wr := ⟨_, rfl⟩
          go_loopw [8, 9] (fun g k wr => ∃ m : Nat, k = .int .i64 m ∧ m ≤ 40 ∧ P2g 82 2 mkPr w1 L gs m g wr ∧ HL 22 wr (.slice ga gs.length gc) gs) (fun _ k _ => 40 - (intOf k).toNat)
          case atStart => exact ⟨0, rfl, by omega, HB.out, hG⟩
          case round =>
            clear HB hG hcl
            obtain ⟨m, rfl, hm, hg', hG'⟩ := hrel
            have hg : Hid (P2g 82 2 mkPr w1 L gs m _ wr) := hg'
            have hG : Hid (HL 22 wr (.slice ga gs.length gc) gs) := hG'
            have hcur : Hid _ := hg'.curE HE.out
            obtain ⟨ca, cc, rfl⟩ := row_slice hcur.out
            clear hg' hG'
            by_cases hlm : m < 40
            · go_wp2_with (first
                | (go_at_call 29; refine (markpr_ik gs.length (en + m) wr (by omega) (by omega)).mono ?_; rintro e w4 ⟨rfl, hb4⟩)
                | (at_builtin; refine wpList_row_append Tryz.underlying22 INF.out.1 INF.out.2.1 INF.out.2.2.1 INF.out.2.2.2 rfl (by decide) (by decide) rfl _ _ rfl _ (en + m) _ rfl (row_later (row_later hcur.out hb4) (below_alloc w4 _)) w4.heap.size 1 (mkPr gs.length (en + m)) rfl rfl (two_new w4 _ _ _) (by intro u hu; simp [mkPr] at hu; rcases hu with rfl | rfl <;> rfl) (by omega) ?_; intro v5 w5 ho5 ha5))
              go_roundw
              case rel => exact ⟨m + 1, by go_num, by omega, (hg.out.later (below_step hb4 (below_alloc w4 _))).appE HE.out ha5 ho5, (hG.out.later (below_step hb4 (below_alloc w4 _))).app (row_later (row_later hcur.out hb4) (below_alloc w4 _)) (by decide) ha5⟩
              case measure => simp [intOf]; omega
            · obtain rfl : m = 40 := by omega
              go_wp2_with (at_builtin; refine wpList_hl_append Tryz.underlying31 infoPRK rfl _ _ rfl (.slice ga gs.length gc) gs rfl (hG.out.later (below_alloc wr _)) wr.heap.size 1 _ rfl (one_new wr _ _ 0 _ rfl) rfl (by omega) ?_; intro v6 w6 hl6 hg6)
              go_roundw
              case rel =>
                refine ⟨gs ++ [.slice ca (en + 40) cc], by simp, (hg.out.later (below_alloc wr _)).fin (hG.out.later (below_alloc wr _)) (by decide) hlo.out hg6.grown, hl6, fun z hz => ?_⟩
                rcases hg6.moved with r | ⟨k, r, hk⟩
                · exact hlo.out z (r ▸ hz)
                · rw [hz] at r
                  have := Option.some.inj r
                  have h1 := hg.out.p.fr.size
                  have h2 : wr.heap.size ≤ (wr.alloc (.cells #[.slice ca (en + 40) cc] 22)).heap.size := (below_alloc wr _).size
                  omega
              case measure => simp [intOf]; omega
        · have hlx : Hid (gs.length = L.length) := by have := hP.len; show _ = _; omega
          have F2 : Hid (KFr L w wr) := F1.out.trans hP.fr
          have NE3 : Hid (∀ w', Below wr.heap.size wr w' → HL 22 w' (.slice la L.length lc) (L.map LE.v)) := fun w' hf => NE2.out w' (hP.fr.trans (KFr.ofBelow hf))
          have HP : Hid (∀ w', Below wr.heap.size wr w' → P2 82 2 mkPr w1 L gs gs.length w') := fun w' hf => hP.later hf
          have HG : Hid (∀ w', Below wr.heap.size wr w' → HL 22 w' (.slice ga gs.length gc) gs) := fun w' hf => hG.later hf
          clear hP hG NE2 F1 hlo
          go_wp2
          clear hlt
          obtain ⟨w2, rfl⟩ : ∃ w2 : World, w2 = wr := ⟨_, rfl⟩
          go_loopw [10] (fun i wr => ∃ j : Nat, i = .int .i64 j ∧ j ≤ L.length ∧ Below w2.heap.size w2 wr) (fun i _ => L.length - (intOf i).toNat)
          case atStart => exact ⟨0, rfl, Nat.zero_le _, Below.refl _ _⟩
          case round =>
            obtain ⟨j, rfl, hj, hb⟩ := hrel
            by_cases hlt : j < L.length
            · have hL := NE3.out wr hb
              obtain ⟨lb, rfl⟩ : ∃ lb, la = some ⟨lb, 0, none⟩ := by
                obtain ⟨g, c, e, _⟩ := hL.at j L[j].v (by simp [hlt])
                simp only [Value.slice.injEq] at e
                exact ⟨g, e.1⟩
              obtain ⟨eg, en, ec, HE, _⟩ := le_at hL hlt
              have hen := HN.out HE.out
              obtain ⟨xb, xc, hgs, _⟩ := (HP.out wr hb).lookE mkPr_len HE.out (by rw [hlx.out]; exact hlt)
              obtain ⟨gb, gc', e, _⟩ := (HG.out wr hb).at j _ hgs
              simp only [Value.slice.injEq] at e
              obtain ⟨rfl, _, rfl⟩ := e
              have AF : Hid (∀ w', Below w2.heap.size w2 w' → w'.cell? ⟨lb, j, none⟩ = some (.slice (some ⟨eg, 0, none⟩) en ec) ∧ w'.cell? ⟨gb, j, none⟩ = some (.slice (some ⟨xb, 0, none⟩) (en + 40) xc) ∧ (∀ m, m < en + 40 → w'.cell? ⟨xb, m * 2, none⟩ = some (.int .i64 (markPN j m)) ∧ w'.cell? ⟨xb, m * 2 + 1, none⟩ = some (.int .i64 0)) ∧ (∀ m, m < en → w'.cell? ⟨eg, m * 2, none⟩ = some (.int .i64 (markPN j m)) ∧ w'.cell? ⟨eg, m * 2 + 1, none⟩ = some (.int .i64 0))) := fun w' hb' => by
                obtain ⟨_, _, _, HE2, hcl⟩ := le_at (NE3.out w' hb') hlt
                have e2 := HE.out.symm.trans HE2.out
                simp only [Option.some.injEq, LE.mk.injEq] at e2
                obtain ⟨rfl, rfl, rfl⟩ := e2
                obtain ⟨xb2, xc2, hgs2, hnew⟩ := (HP.out w' hb').lookE mkPr_len HE.out (by rw [hlx.out]; exact hlt)
                have e3 := hgs.symm.trans hgs2
                simp only [Option.some.injEq, Value.slice.injEq, Addr.mk.injEq] at e3
                obtain ⟨⟨rfl, _⟩, _, rfl⟩ := e3
                obtain ⟨gb2, gc2, e, hcg⟩ := (HG.out w' hb').at j _ hgs
                simp only [Value.slice.injEq, Option.some.injEq, Addr.mk.injEq] at e
                obtain ⟨⟨rfl, _⟩, _⟩ := e
                exact ⟨hcl, hcg, fun m hm => ⟨by have := hnew m hm 0 (by omega); simpa [mkPr] using this, by have := hnew m hm 1 (by omega); simpa [mkPr] using this⟩, fun m hm => ⟨by have := (HP.out w' hb').lookOldE mkPr_len HE.out m hm 0 (by omega); simpa [mkPr] using this, by have := (HP.out w' hb').lookOldE mkPr_len HE.out m hm 1 (by omega); simpa [mkPr] using this⟩⟩
              obtain ⟨k1, k2, _, _⟩ := AF.out wr hb
              have hjg : j < gs.length := by rw [hlx.out]; exact hlt
              clear hgs hL
              go_wp2
              obtain ⟨wo, rfl⟩ : ∃ wo : World, wo = wr := ⟨_, rfl⟩
              go_loopw [11] (fun k wr => ∃ m : Nat, k = .int .i64 m ∧ m ≤ en + 40 ∧ Below w2.heap.size w2 wr) (fun k _ => en + 40 - (intOf k).toNat)
              case atStart => exact ⟨0, rfl, Nat.zero_le _, hb⟩
              case round =>
                clear hb k1 k2
                obtain ⟨m, rfl, hm, hb⟩ := hrel
                obtain ⟨k1, k2, _, _⟩ := AF.out wr hb
                by_cases hlm : m < en + 40
                · skip
                  have hd1 : decide ((m : Int) < (en : Int) + 40) = true := by simp; omega
                  go_wp2_with (go_at_call 29; refine (markpr_ik j m wr (by omega) (by omega)).mono ?_; rintro e w4 ⟨rfl, hb4⟩)
                  have hbW := below_step (below_step hb hb4) (below_alloc w4 (.cells #[.int .i64 (markPN j m), .int .i64 0] 82))
                  have hw0 := two_new w4 (.int .i64 (markPN j m)) (.int .i64 0) 82 0 _ rfl
                  have hw1 := two_new w4 (.int .i64 (markPN j m)) (.int .i64 0) 82 1 _ rfl
                  generalize w4.alloc (.cells #[.int .i64 (markPN j m), .int .i64 0] 82) = W at *
                  generalize w4.heap.size = wc at *
                  obtain ⟨q1, q2, q3', q4'⟩ := AF.out W hbW
                  obtain ⟨q3, q5⟩ := q3' m hlm
                  have hbn : (markPN j m == markPN j m) = true := by simp
                  clear q3' k1 k2
                  by_cases hln : m < en
                  · obtain ⟨q6, q7⟩ := q4' m hln
                    clear q4'
                    generalize markPN j m = mn at *
                    have hx1 : (m : Int) < (en : Int) + 40 := by omega
                    have hx2 : ¬ ((en : Int) + 40 ≤ (m : Int)) := by omega
                    have hx3 : ¬ (en + 40 ≤ m) := by omega
                    go_quiet (fail)
                    go_wp2
                    go_roundw
                    case rel => exact ⟨m + 1, by go_num, by omega, below_drewN hbW _⟩
                    case measure => simp [intOf]; omega
                  · clear q4'
                    generalize markPN j m = mn at *
                    go_quiet (fail)
                    go_wp2
                    go_roundw
                    case rel => exact ⟨m + 1, by go_num, by omega, below_drewN hbW _⟩
                    case measure => simp [intOf]; omega
                · go_wp2
                  go_roundw
                  case rel => exact ⟨j + 1, by go_num, by omega, hb⟩
                  case measure => simp [intOf]; omega
            · go_wp2
              go_ret
              exact ⟨rfl, F2.out.trans (KFr.ofBelow hb)⟩
end Go.Proofs.YtcgghlaifmlpiaaGreatDoor
