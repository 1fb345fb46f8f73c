import Derived.Test.YthgnhdnmcjpdmaaGreatDoorPKBaseToKNil
import Derived.Test.YthgnhdnmcjpdmaaGreatDoorPBBaseToGRow
import Derived.Test.YthgnhdnmcjpdmaaGreatDoorPGUsesToGSum
import Derived.Deep.RegionWith
namespace Go.Proofs.YthgnhdnmcjpdmaaGreatDoor
set_option linter.unusedVariables false
set_option maxRecDepth 100000
set_option maxHeartbeats 16000000
open Go.RowKit Go.Maps
def markC (i k : Nat) : Int := -5 - 100003 * ((i : Int) + 1) - 7 * (k : Int)
def mkCore (i k : Nat) : List Value := [.int .i64 (markC i k), .int .i64 0]
theorem markcore_ik (i k : Nat) (w : World) (hi : i <= 100000000) (hk : k <= 1000000000) :
  Calls Tryz.prog 111 #[.int .i64 i, .int .i64 k] w fun e w' => e = .returned (.agg #[.int .i64 (markC i k), .int .i64 0]) /\ Below w.heap.size w w' := by
 go_enter Tryz.func111, Tryz.ntmps111
 go_wp2
 go_returns
 exact ⟨rfl, by go_grown⟩
theorem enter_markCo (args : Array Value) (w : World) : (callFunc 111 args).run Tryz.prog w = .ok (.enter 111 args) w := by kernel_rfl
theorem step_markCo {ops : Array Oper} {o : Oper} {a : Act} {w : World} {K : Act -> World -> Prop} {Q : Exit -> Act -> World -> Prop} {E : Prop}
  (hg : o.guard = none) (x y : Operand) (hop : o.op = Op.call { callee := Callee.value (Operand.func 111), args := #[x, y], argTypes := #[3, 3] })
  (i k : Nat) (hx : a.eval x = .int .i64 i) (hy : a.eval y = .int .i64 k) (hi : i <= 100000000) (hk : k <= 1000000000)
  (hK : ∀ w', Below w.heap.size w w' -> K (a.put o.dst (.agg #[.int .i64 (markC i k), .int .i64 0])) w') :
  if Region.wanted o (yielded ops a.tmps) = true then Oper.wp Tryz.prog o a w K Q else E := by
 have hw : Region.wanted o (yielded ops a.tmps) = true := by simp [Region.wanted, hg]
 rw [if_pos hw]
 have hf : a.eval (Operand.func 111) = .func (.func 111) #[] #[] := rfl
 have hcf := enter_markCo #[.int .i64 i, .int .i64 k] w
 have e : (execOp a.eval o).run Tryz.prog w = .ok (.enter 111 #[.int .i64 i, .int .i64 k]) w := by
  simp [execOp, hop, resolve, invoke, hx, hy, hf, Deferred.ofValue, hcf]
 show o.upon Tryz.prog a K Q ((execOp a.eval o).run Tryz.prog w)
 rw [e, Oper.upon_enter]
 refine (markcore_ik i k w hi hk).mono ?_
 rintro e w' ⟨rfl, hb⟩
 exact hK w' hb
theorem infoCRK : SliceInfo 65 := sliceInfo_of (by kernel_rfl)
theorem mkCore_len : ∀ i k, (mkCore i k).length = 2 := fun _ _ => rfl
theorem apart_cores (q : Nat) (lv : Value) (L : List LE) (X : Nat -> List Value) (w : World) (hq : w.cell? ⟨q, 5, none⟩ = some lv) (hl : HL 65 w lv (L.map LE.v)) (hrow : ∀ j (h : j < L.length), w.ownsRow 0 107 2 L[j].v L[j].n (X j)) (hnd : ∀ j j' (h : j < L.length) (h' : j' < L.length), j ≠ j' -> L[j].g ≠ L[j'].g) (hlen : L.length <= 100000000) (hn : ∀ e ∈ L, e.n <= 100000000) :
  Calls Tryz.prog 48 #[.pointer (some ⟨q, 0, none⟩)] w fun e w' => e = .returned (.bool true) /\ KFr L w w' := by
 obtain ⟨i0, hi, hz0, hz1, hz2⟩ := infoCore_parts
 have PS : Hid (P1I 107 2 mkCore w L 0 0 w) := P1I.start hrow hnd
 have NE : Hid (∀ w', KFr L w w' -> HL 65 w' lv (L.map LE.v)) := fun w' hf => hl.setK hf fun e he => by
  obtain ⟨j, hj, rfl⟩ := List.getElem_of_mem he
  obtain ⟨cur, h1, _⟩ := row_block (hrow j hj)
  exact hl.ne h1 (by decide)
 have HN : Hid (∀ {j eg en ec : Nat}, L[j]? = some ⟨eg, en, ec⟩ -> en <= 100000000) := fun {j eg en ec} he => hn ⟨eg, en, ec⟩ (List.mem_of_getElem? he)
 have LT : Hid (∀ z, lv.ownBlock = some z -> z < w.heap.size) := hl.lt
 obtain ⟨la, lc, rfl⟩ := hl.slice
 rw [List.length_map] at hq NE LT
 clear hrow hnd hn hl
 go_enter Tryz.func48, Tryz.ntmps48
 go_wp2
 go_loopw [4] (fun i wr => ∃ j : Nat, i = .int .i64 j /\ j <= L.length /\ P1I 107 2 mkCore w L j 0 wr) (fun i _ => L.length - (intOf i).toNat)
 case atStart => exact ⟨0, rfl, Nat.zero_le _, PS.out⟩
 case round =>
  clear PS hq
  obtain ⟨j, rfl, hj, hP⟩ := hrel
  by_cases hlt : j < L.length
  ·have hL := NE.out wr hP.fr
   obtain ⟨lb, rfl⟩ : ∃ lb, la = some ⟨lb, 0, none⟩ := by
    obtain ⟨g, c, e, _⟩ := hL.at j L[j].v (by simp [hlt])
    simp only [Value.slice.injEq] at e
    exact ⟨g, e.1⟩
   obtain ⟨eg, en, ec, HE, hcl⟩ := le_at hL hlt
   have hen := HN.out HE.out
   go_wp2
   obtain ⟨wo, rfl⟩ : ∃ wo : World, wo = wr := ⟨_, rfl⟩
   go_loopw [5] (fun k wr => ∃ m : Nat, k = .int .i64 m /\ m <= en /\ P1I 107 2 mkCore w L j m wr) (fun k _ => en - (intOf k).toNat)
   case atStart => exact ⟨0, rfl, Nat.zero_le _, hP⟩
   case round =>
    clear hP hL hcl
    obtain ⟨m, rfl, hm, hP⟩ := hrel
    obtain ⟨_, _, _, HE2, hcl⟩ := le_at (NE.out wr hP.fr) hlt
    have := HE.out.symm.trans HE2.out
    simp only [Option.some.injEq, LE.mk.injEq] at this
    obtain ⟨rfl, rfl, rfl⟩ := this
    clear HE2
    by_cases hlm : m < en
    ·have HP : Hid (P1I 107 2 mkCore w L j m wr) := hP
     have AF : Hid (∀ w4, Below wr.drew.heap.size wr.drew w4 -> (∃ u, w4.cell? ⟨eg, m * 2, none⟩ = some u) /\ (∃ u, w4.cell? ⟨eg, m * 2 + 1, none⟩ = some u) /\ w4.frozen? ⟨eg, m * 2, none⟩ = false /\ w4.frozen? ⟨eg, m * 2 + 1, none⟩ = false /\ w4.cell? ⟨lb, j, none⟩ = some (.slice (some ⟨eg, 0, none⟩) en ec)) := fun w4 hb => by
      have h4 := HP.out.later (below_step (Below.refl _ _).drew hb)
      refine ⟨h4.cellE HE.out _ (by omega), h4.cellE HE.out _ (by omega), h4.freeE HE.out _, h4.freeE HE.out _, ?_⟩
      obtain ⟨_, _, _, HE2, hcl⟩ := le_at (NE.out w4 h4.fr) hlt
      have := HE.out.symm.trans HE2.out
      simp only [Option.some.injEq, LE.mk.injEq] at this
      obtain ⟨rfl, rfl, rfl⟩ := this
      exact hcl
     obtain ⟨⟨u0, cu0⟩, ⟨v0, cv0⟩, fu0, fv0, _⟩ := AF.out wr.drew (Below.refl _ _)
     clear hP
     go_wp2
     go_region_law (first
      | (refine step_markCo (by rfl) _ _ (by rfl) j m (by rfl) (by rfl) (by omega) (by omega) ?_; intro w4 hb4; obtain ⟨⟨u4, cu4⟩, ⟨v4, cv4⟩, fu4, fv4, cl4⟩ := AF.out w4 hb4))
     all_goals go_wp2
     all_goals
      go_roundw
      case rel => exact ⟨m + 1, by go_num, by omega, (HP.out.later (below_step (Below.refl _ _).drew hb4)).set2E HE.out hlm _ _ rfl⟩
      case measure => simp [intOf]; omega
    ·obtain rfl : m = en := by omega
     go_wp2
     go_roundw
     case rel => exact ⟨j + 1, by go_num, by omega, hP.nextE HE.out⟩
     case measure => simp [intOf]; omega
  ·obtain rfl : j = L.length := by omega
   have F1 : Hid (KFr L w wr) := hP.fr
   have HP2 : Hid (P2 107 2 mkCore wr L [] ([] : List Value).length wr) := P2.start hP
   have NE2 : Hid (∀ w', KFr L wr w' -> HL 65 w' (.slice la L.length lc) (L.map LE.v)) := fun w' hf => NE.out w' (F1.out.trans hf)
   have INF : Hid (Tryz.prog.info? 107 = some i0 /\ i0.zero = some (.agg #[.int .i64 0, .int .i64 0]) /\ i0.size = 2 /\ i0.bytes = 16) := ⟨hi, hz0, hz1, hz2⟩
   clear hP NE LT hlt hj hi hz0 hz1 hz2
   go_wp2
   obtain ⟨w1, rfl⟩ : ∃ w1 : World, w1 = wr := ⟨_, rfl⟩
   go_loopw [6, 7] (fun gr i wr => ∃ gs : List Value, i = .int .i64 gs.length /\ P2 107 2 mkCore w1 L gs gs.length wr /\ HL 65 wr gr gs /\ (∀ z, gr.ownBlock = some z -> w1.heap.size <= z)) (fun _ i _ => L.length - (intOf i).toNat)
   case atStart => exact ⟨[], rfl, HP2.out, HL.nil _ _, fun z hz => by simp [Value.ownBlock] at hz⟩
   case round =>
    clear HP2
    obtain ⟨gs, rfl, hP, hG, hlo'⟩ := hrel
    have hlo : Hid _ := hlo'
    clear hlo'
    obtain ⟨ga, gc, rfl⟩ := hG.slice
    by_cases hlt : gs.length < L.length
    ·have hL := NE2.out wr hP.fr
     obtain ⟨lb, rfl⟩ : ∃ lb, la = some ⟨lb, 0, none⟩ := by
      obtain ⟨g, c, e, _⟩ := hL.at gs.length L[gs.length].v (by simp [hlt])
      simp only [Value.slice.injEq] at e
      exact ⟨g, e.1⟩
     obtain ⟨eg, en, ec, HE, hcl⟩ := le_at hL hlt
     have hen := HN.out HE.out
     have HB : Hid (P2g 107 2 mkCore w1 L gs 0 (.slice (some ⟨eg, 0, none⟩) en ec) wr) := hP.beginE HE.out
     clear hP hL
     go_wp2
     obtain ⟨wo, rfl⟩ : ∃ wo : World, wo = wr := ⟨_, rfl⟩
     go_loopw [8, 9] (fun g k wr => ∃ m : Nat, k = .int .i64 m /\ m <= 40 /\ P2g 107 2 mkCore w1 L gs m g wr /\ HL 65 wr (.slice ga gs.length gc) gs) (fun _ k _ => 40 - (intOf k).toNat)
     case atStart => exact ⟨0, rfl, by omega, HB.out, hG⟩
     case round =>
      clear HB hG hcl
      obtain ⟨m, rfl, hm, hg', hG'⟩ := hrel
      have hg : Hid (P2g 107 2 mkCore w1 L gs m _ wr) := hg'
      have hG : Hid (HL 65 wr (.slice ga gs.length gc) gs) := hG'
      have hcur : Hid _ := hg'.curE HE.out
      obtain ⟨ca, cc, rfl⟩ := row_slice hcur.out
      clear hg' hG'
      by_cases hlm : m < 40
      ·go_wp2_with (first
        | (go_at_call 111; refine (markcore_ik gs.length (en + m) wr (by omega) (by omega)).mono ?_; rintro e w4 ⟨rfl, hb4⟩)
        | (at_builtin; refine wpList_row_append Tryz.underlying65 INF.out.1 INF.out.2.1 INF.out.2.2.1 INF.out.2.2.2 rfl (by decide) (by decide) rfl _ _ rfl _ (en + m) _ rfl (row_later (row_later hcur.out hb4) (below_alloc w4 _)) w4.heap.size 1 (mkCore gs.length (en + m)) rfl rfl (two_new w4 _ _ _) (by intro u hu; simp [mkCore] at hu; rcases hu with rfl | rfl <;> rfl) (by omega) ?_; intro v5 w5 ho5 ha5))
       go_roundw
       case rel => exact ⟨m + 1, by go_num, by omega, (hg.out.later (below_step hb4 (below_alloc w4 _))).appE HE.out ha5 ho5, (hG.out.later (below_step hb4 (below_alloc w4 _))).app (row_later (row_later hcur.out hb4) (below_alloc w4 _)) (by decide) ha5⟩
       case measure => simp [intOf]; omega
      ·obtain rfl : m = 40 := by omega
       go_wp2_with (at_builtin; refine wpList_hl_append Tryz.underlying37 infoCRK rfl _ _ rfl (.slice ga gs.length gc) gs rfl (hG.out.later (below_alloc wr _)) wr.heap.size 1 _ rfl (one_new wr _ _ 0 _ rfl) rfl (by omega) ?_; intro v6 w6 hl6 hg6)
       go_roundw
       case rel =>
        refine ⟨gs ++ [.slice ca (en + 40) cc], by simp, (hg.out.later (below_alloc wr _)).fin (hG.out.later (below_alloc wr _)) (by decide) hlo.out hg6.grown, hl6, fun z hz => ?_⟩
        rcases hg6.moved with r | ⟨k, r, hk⟩
        ·exact hlo.out z (r ▸ hz)
        ·rw [hz] at r
         have := Option.some.inj r
         have h1 := hg.out.p.fr.size
         have h2 : wr.heap.size <= (wr.alloc (.cells #[.slice ca (en + 40) cc] 65)).heap.size := (below_alloc wr _).size
         omega
       case measure => simp [intOf]; omega
    ·have hlx : Hid (gs.length = L.length) := by have := hP.len; show _ = _; omega
     have F2 : Hid (KFr L w wr) := F1.out.trans hP.fr
     have NE3 : Hid (∀ w', Below wr.heap.size wr w' -> HL 65 w' (.slice la L.length lc) (L.map LE.v)) := fun w' hf => NE2.out w' (hP.fr.trans (KFr.ofBelow hf))
     have HP : Hid (∀ w', Below wr.heap.size wr w' -> P2 107 2 mkCore w1 L gs gs.length w') := fun w' hf => hP.later hf
     have HG : Hid (∀ w', Below wr.heap.size wr w' -> HL 65 w' (.slice ga gs.length gc) gs) := fun w' hf => hG.later hf
     clear hP hG NE2 F1 hlo
     go_wp2
     clear hlt
     obtain ⟨w2, rfl⟩ : ∃ w2 : World, w2 = wr := ⟨_, rfl⟩
     go_loopw [10] (fun i wr => ∃ j : Nat, i = .int .i64 j /\ j <= L.length /\ Below w2.heap.size w2 wr) (fun i _ => L.length - (intOf i).toNat)
     case atStart => exact ⟨0, rfl, Nat.zero_le _, Below.refl _ _⟩
     case round =>
      obtain ⟨j, rfl, hj, hb⟩ := hrel
      by_cases hlt : j < L.length
      ·have hL := NE3.out wr hb
       obtain ⟨lb, rfl⟩ : ∃ lb, la = some ⟨lb, 0, none⟩ := by
        obtain ⟨g, c, e, _⟩ := hL.at j L[j].v (by simp [hlt])
        simp only [Value.slice.injEq] at e
        exact ⟨g, e.1⟩
       obtain ⟨eg, en, ec, HE, _⟩ := le_at hL hlt
       have hen := HN.out HE.out
       obtain ⟨xb, xc, hgs, _⟩ := (HP.out wr hb).lookE mkCore_len HE.out (by rw [hlx.out]; exact hlt)
       obtain ⟨gb, gc', e, _⟩ := (HG.out wr hb).at j _ hgs
       simp only [Value.slice.injEq] at e
       obtain ⟨rfl, _, rfl⟩ := e
       have AF : Hid (∀ w', Below w2.heap.size w2 w' -> w'.cell? ⟨lb, j, none⟩ = some (.slice (some ⟨eg, 0, none⟩) en ec) /\ w'.cell? ⟨gb, j, none⟩ = some (.slice (some ⟨xb, 0, none⟩) (en + 40) xc) /\ (∀ m, m < en + 40 -> w'.cell? ⟨xb, m * 2, none⟩ = some (.int .i64 (markC j m)) /\ w'.cell? ⟨xb, m * 2 + 1, none⟩ = some (.int .i64 0)) /\ (∀ m, m < en -> w'.cell? ⟨eg, m * 2, none⟩ = some (.int .i64 (markC j m)) /\ w'.cell? ⟨eg, m * 2 + 1, none⟩ = some (.int .i64 0))) := fun w' hb' => by
        obtain ⟨_, _, _, HE2, hcl⟩ := le_at (NE3.out w' hb') hlt
        have e2 := HE.out.symm.trans HE2.out
        simp only [Option.some.injEq, LE.mk.injEq] at e2
        obtain ⟨rfl, rfl, rfl⟩ := e2
        obtain ⟨xb2, xc2, hgs2, hnew⟩ := (HP.out w' hb').lookE mkCore_len HE.out (by rw [hlx.out]; exact hlt)
        have e3 := hgs.symm.trans hgs2
        simp only [Option.some.injEq, Value.slice.injEq, Addr.mk.injEq] at e3
        obtain ⟨⟨rfl, _⟩, _, rfl⟩ := e3
        obtain ⟨gb2, gc2, e, hcg⟩ := (HG.out w' hb').at j _ hgs
        simp only [Value.slice.injEq, Option.some.injEq, Addr.mk.injEq] at e
        obtain ⟨⟨rfl, _⟩, _⟩ := e
        exact ⟨hcl, hcg, fun m hm => ⟨by have := hnew m hm 0 (by omega); simpa [mkCore] using this, by have := hnew m hm 1 (by omega); simpa [mkCore] using this⟩, fun m hm => ⟨by have := (HP.out w' hb').lookOldE mkCore_len HE.out m hm 0 (by omega); simpa [mkCore] using this, by have := (HP.out w' hb').lookOldE mkCore_len HE.out m hm 1 (by omega); simpa [mkCore] using this⟩⟩
       obtain ⟨k1, k2, _, _⟩ := AF.out wr hb
       have hjg : j < gs.length := by rw [hlx.out]; exact hlt
       clear hgs hL
       go_wp2
       obtain ⟨wo, rfl⟩ : ∃ wo : World, wo = wr := ⟨_, rfl⟩
       go_loopw [11] (fun k wr => ∃ m : Nat, k = .int .i64 m /\ m <= en + 40 /\ Below w2.heap.size w2 wr) (fun k _ => en + 40 - (intOf k).toNat)
       case atStart => exact ⟨0, rfl, Nat.zero_le _, hb⟩
       case round =>
        clear hb k1 k2
        obtain ⟨m, rfl, hm, hb⟩ := hrel
        obtain ⟨k1, k2, _, _⟩ := AF.out wr hb
        by_cases hlm : m < en + 40
        ·skip
         have hd1 : decide ((m : Int) < (en : Int) + 40) = true := by simp; omega
         go_wp2_with (go_at_call 111; refine (markcore_ik j m wr (by omega) (by omega)).mono ?_; rintro e w4 ⟨rfl, hb4⟩)
         have hbW := below_step (below_step hb hb4) (below_alloc w4 (.cells #[.int .i64 (markC j m), .int .i64 0] 107))
         have hw0 := two_new w4 (.int .i64 (markC j m)) (.int .i64 0) 107 0 _ rfl
         have hw1 := two_new w4 (.int .i64 (markC j m)) (.int .i64 0) 107 1 _ rfl
         generalize w4.alloc (.cells #[.int .i64 (markC j m), .int .i64 0] 107) = W at *
         generalize w4.heap.size = wc at *
         obtain ⟨q1, q2, q3', q4'⟩ := AF.out W hbW
         obtain ⟨q3, q5⟩ := q3' m hlm
         have hbn : (markC j m == markC j m) = true := by simp
         clear q3' k1 k2
         by_cases hln : m < en
         ·obtain ⟨q6, q7⟩ := q4' m hln
          clear q4'
          generalize markC j m = mn at *
          have hx1 : (m : Int) < (en : Int) + 40 := by omega
          have hx2 : ¬ ((en : Int) + 40 <= (m : Int)) := by omega
          have hx3 : ¬ (en + 40 <= m) := by omega
          go_quiet (fail)
          go_wp2
          go_roundw
          case rel => exact ⟨m + 1, by go_num, by omega, below_drewN hbW _⟩
          case measure => simp [intOf]; omega
         ·clear q4'
          generalize markC j m = mn at *
          go_quiet (fail)
          go_wp2
          go_roundw
          case rel => exact ⟨m + 1, by go_num, by omega, below_drewN hbW _⟩
          case measure => simp [intOf]; omega
        ·go_wp2
         go_roundw
         case rel => exact ⟨j + 1, by go_num, by omega, hb⟩
         case measure => simp [intOf]; omega
      ·go_wp2
       go_ret
       exact ⟨rfl, F2.out.trans (KFr.ofBelow hb)⟩
end Go.Proofs.YthgnhdnmcjpdmaaGreatDoor
namespace Go.Proofs.YthgnhdnmcjpdmaaGreatDoor
set_option linter.unusedVariables false
set_option maxRecDepth 100000
set_option maxHeartbeats 16000000
open Go.RowKit Go.Maps
def markL (i k : Nat) : Int := -5 - 100003 * ((i : Int) + 1) - 7 * (k : Int)
def mkLev (i k : Nat) : List Value := [.int .i64 (markL i k), .slice none 0 0]
theorem infoLevK : (Tryz.prog.info? 92).map (fun i => (i.zero, i.size, i.bytes)) = some (some (.agg #[.int .i64 0, .slice none 0 0]), 2, 32) := by kernel_rfl
theorem levK_field (a : Value) (w : World) : (Instr.field 92 (.agg #[a, .slice none 0 0]) 0).run Tryz.prog w = .ok a w := by kernel_rfl
theorem infoLevK_parts : ∃ i, Tryz.prog.info? 92 = some i /\ i.zero = some (.agg #[.int .i64 0, .slice none 0 0]) /\ i.size = 2 /\ i.bytes = 32 := by
 have h := infoLevK
 cases e : Tryz.prog.info? 92 with
 | none => rw [e] at h; cases h
 | some i => rw [e] at h; simp at h; exact ⟨i, rfl, h⟩
theorem infoLVK : SliceInfo 24 := sliceInfo_of (by kernel_rfl)
theorem mkLev_len : ∀ i k, (mkLev i k).length = 2 := fun _ _ => rfl
theorem apart_levels (q : Nat) (lv : Value) (L : List LE) (X : Nat -> List Value) (w : World) (hq : w.cell? ⟨q, 11, none⟩ = some lv) (hl : HL 24 w lv (L.map LE.v)) (hrow : ∀ j (h : j < L.length), w.ownsRow 0 92 2 L[j].v L[j].n (X j)) (hnd : ∀ j j' (h : j < L.length) (h' : j' < L.length), j ≠ j' -> L[j].g ≠ L[j'].g) (hlen : L.length <= 100000000) (hn : ∀ e ∈ L, e.n <= 100000000) :
  Calls Tryz.prog 54 #[.pointer (some ⟨q, 0, none⟩)] w fun e w' => e = .returned (.bool true) /\ KFr L w w' := by
 obtain ⟨i0, hi, hz0, hz1, hz2⟩ := infoLevK_parts
 have PS : Hid (P1I 92 2 mkLev w L 0 0 w) := P1I.start hrow hnd
 have NE : Hid (∀ w', KFr L w w' -> HL 24 w' lv (L.map LE.v)) := fun w' hf => hl.setK hf fun e he => by
  obtain ⟨j, hj, rfl⟩ := List.getElem_of_mem he
  obtain ⟨cur, h1, _⟩ := row_block (hrow j hj)
  exact hl.ne h1 (by decide)
 have HN : Hid (∀ {j eg en ec : Nat}, L[j]? = some ⟨eg, en, ec⟩ -> en <= 100000000) := fun {j eg en ec} he => hn ⟨eg, en, ec⟩ (List.mem_of_getElem? he)
 have LT : Hid (∀ z, lv.ownBlock = some z -> z < w.heap.size) := hl.lt
 obtain ⟨la, lc, rfl⟩ := hl.slice
 rw [List.length_map] at hq NE LT
 clear hrow hnd hn hl
 go_enter Tryz.func54, Tryz.ntmps54
 go_wp2
 go_loopw [4] (fun i wr => ∃ j : Nat, i = .int .i64 j /\ j <= L.length /\ P1I 92 2 mkLev w L j 0 wr) (fun i _ => L.length - (intOf i).toNat)
 case atStart => exact ⟨0, rfl, Nat.zero_le _, PS.out⟩
 case round =>
  clear PS hq
  obtain ⟨j, rfl, hj, hP⟩ := hrel
  by_cases hlt : j < L.length
  ·have hL := NE.out wr hP.fr
   obtain ⟨lb, rfl⟩ : ∃ lb, la = some ⟨lb, 0, none⟩ := by
    obtain ⟨g, c, e, _⟩ := hL.at j L[j].v (by simp [hlt])
    simp only [Value.slice.injEq] at e
    exact ⟨g, e.1⟩
   obtain ⟨eg, en, ec, HE, hcl⟩ := le_at hL hlt
   have hen := HN.out HE.out
   go_wp2
   obtain ⟨wo, rfl⟩ : ∃ wo : World, wo = wr := ⟨_, rfl⟩
   go_loopw [5] (fun k wr => ∃ m : Nat, k = .int .i64 m /\ m <= en /\ P1I 92 2 mkLev w L j m wr) (fun k _ => en - (intOf k).toNat)
   case atStart => exact ⟨0, rfl, Nat.zero_le _, hP⟩
   case round =>
    clear hP hL hcl
    obtain ⟨m, rfl, hm, hP⟩ := hrel
    obtain ⟨_, _, _, HE2, hcl⟩ := le_at (NE.out wr hP.fr) hlt
    have := HE.out.symm.trans HE2.out
    simp only [Option.some.injEq, LE.mk.injEq] at this
    obtain ⟨rfl, rfl, rfl⟩ := this
    clear HE2
    by_cases hlm : m < en
    ·have HP : Hid (P1I 92 2 mkLev w L j m wr) := hP
     have AF : Hid (∀ w4, Below wr.heap.size wr w4 -> (∃ u, w4.cell? ⟨eg, m * 2, none⟩ = some u) /\ (∃ u, w4.cell? ⟨eg, m * 2 + 1, none⟩ = some u) /\ w4.frozen? ⟨eg, m * 2, none⟩ = false /\ w4.frozen? ⟨eg, m * 2 + 1, none⟩ = false /\ w4.cell? ⟨lb, j, none⟩ = some (.slice (some ⟨eg, 0, none⟩) en ec)) := fun w4 hb => by
      have h4 := HP.out.later hb
      refine ⟨h4.cellE HE.out _ (by omega), h4.cellE HE.out _ (by omega), h4.freeE HE.out _, h4.freeE HE.out _, ?_⟩
      obtain ⟨_, _, _, HE2, hcl⟩ := le_at (NE.out w4 h4.fr) hlt
      have := HE.out.symm.trans HE2.out
      simp only [Option.some.injEq, LE.mk.injEq] at this
      obtain ⟨rfl, rfl, rfl⟩ := this
      exact hcl
     obtain ⟨⟨u0, cu0⟩, ⟨v0, cv0⟩, fu0, fv0, _⟩ := AF.out wr (Below.refl _ _)
     clear hP
     go_wp2
     go_roundw
     case rel => exact ⟨m + 1, by go_num, by omega, HP.out.set2E HE.out hlm _ _ rfl⟩
     case measure => simp [intOf]; omega
    ·obtain rfl : m = en := by omega
     go_wp2
     go_roundw
     case rel => exact ⟨j + 1, by go_num, by omega, hP.nextE HE.out⟩
     case measure => simp [intOf]; omega
  ·obtain rfl : j = L.length := by omega
   have F1 : Hid (KFr L w wr) := hP.fr
   have HP2 : Hid (P2 92 2 mkLev wr L [] ([] : List Value).length wr) := P2.start hP
   have NE2 : Hid (∀ w', KFr L wr w' -> HL 24 w' (.slice la L.length lc) (L.map LE.v)) := fun w' hf => NE.out w' (F1.out.trans hf)
   have INF : Hid (Tryz.prog.info? 92 = some i0 /\ i0.zero = some (.agg #[.int .i64 0, .slice none 0 0]) /\ i0.size = 2 /\ i0.bytes = 32) := ⟨hi, hz0, hz1, hz2⟩
   clear hP NE LT hlt hj hi hz0 hz1 hz2
   go_wp2
   obtain ⟨w1, rfl⟩ : ∃ w1 : World, w1 = wr := ⟨_, rfl⟩
   go_loopw [6, 7] (fun gr i wr => ∃ gs : List Value, i = .int .i64 gs.length /\ P2 92 2 mkLev w1 L gs gs.length wr /\ HL 24 wr gr gs /\ (∀ z, gr.ownBlock = some z -> w1.heap.size <= z)) (fun _ i _ => L.length - (intOf i).toNat)
   case atStart => exact ⟨[], rfl, HP2.out, HL.nil _ _, fun z hz => by simp [Value.ownBlock] at hz⟩
   case round =>
    clear HP2
    obtain ⟨gs, rfl, hP, hG, hlo'⟩ := hrel
    have hlo : Hid _ := hlo'
    clear hlo'
    obtain ⟨ga, gc, rfl⟩ := hG.slice
    by_cases hlt : gs.length < L.length
    ·have hL := NE2.out wr hP.fr
     obtain ⟨lb, rfl⟩ : ∃ lb, la = some ⟨lb, 0, none⟩ := by
      obtain ⟨g, c, e, _⟩ := hL.at gs.length L[gs.length].v (by simp [hlt])
      simp only [Value.slice.injEq] at e
      exact ⟨g, e.1⟩
     obtain ⟨eg, en, ec, HE, hcl⟩ := le_at hL hlt
     have hen := HN.out HE.out
     have HB : Hid (P2g 92 2 mkLev w1 L gs 0 (.slice (some ⟨eg, 0, none⟩) en ec) wr) := hP.beginE HE.out
     clear hP hL
     go_wp2
     obtain ⟨wo, rfl⟩ : ∃ wo : World, wo = wr := ⟨_, rfl⟩
     go_loopw [8, 9] (fun g k wr => ∃ m : Nat, k = .int .i64 m /\ m <= 40 /\ P2g 92 2 mkLev w1 L gs m g wr /\ HL 24 wr (.slice ga gs.length gc) gs) (fun _ k _ => 40 - (intOf k).toNat)
     case atStart => exact ⟨0, rfl, by omega, HB.out, hG⟩
     case round =>
      clear HB hG hcl
      obtain ⟨m, rfl, hm, hg', hG'⟩ := hrel
      have hg : Hid (P2g 92 2 mkLev w1 L gs m _ wr) := hg'
      have hG : Hid (HL 24 wr (.slice ga gs.length gc) gs) := hG'
      have hcur : Hid _ := hg'.curE HE.out
      obtain ⟨ca, cc, rfl⟩ := row_slice hcur.out
      clear hg' hG'
      by_cases hlm : m < 40
      ·go_wp2_with (first
        | (at_builtin; refine wpList_row_append Tryz.underlying24 INF.out.1 INF.out.2.1 INF.out.2.2.1 INF.out.2.2.2 rfl (by decide) (by decide) rfl _ _ rfl _ (en + m) _ rfl (row_later hcur.out (below_alloc wr _)) wr.heap.size 1 (mkLev gs.length (en + m)) rfl rfl (two_new wr _ _ _) (by intro u hu; simp [mkLev] at hu; rcases hu with rfl | rfl <;> rfl) (by omega) ?_; intro v5 w5 ho5 ha5))
       go_roundw
       case rel => exact ⟨m + 1, by go_num, by omega, (hg.out.later (below_alloc wr _)).appE HE.out ha5 ho5, (hG.out.later (below_alloc wr _)).app (row_later hcur.out (below_alloc wr _)) (by decide) ha5⟩
       case measure => simp [intOf]; omega
      ·obtain rfl : m = 40 := by omega
       go_wp2_with (at_builtin; refine wpList_hl_append Tryz.underlying43 infoLVK rfl _ _ rfl (.slice ga gs.length gc) gs rfl (hG.out.later (below_alloc wr _)) wr.heap.size 1 _ rfl (one_new wr _ _ 0 _ rfl) rfl (by omega) ?_; intro v6 w6 hl6 hg6)
       go_roundw
       case rel =>
        refine ⟨gs ++ [.slice ca (en + 40) cc], by simp, (hg.out.later (below_alloc wr _)).fin (hG.out.later (below_alloc wr _)) (by decide) hlo.out hg6.grown, hl6, fun z hz => ?_⟩
        rcases hg6.moved with r | ⟨k, r, hk⟩
        ·exact hlo.out z (r ▸ hz)
        ·rw [hz] at r
         have := Option.some.inj r
         have h1 := hg.out.p.fr.size
         have h2 : wr.heap.size <= (wr.alloc (.cells #[.slice ca (en + 40) cc] 24)).heap.size := (below_alloc wr _).size
         omega
       case measure => simp [intOf]; omega
    ·have hlx : Hid (gs.length = L.length) := by have := hP.len; show _ = _; omega
     have F2 : Hid (KFr L w wr) := F1.out.trans hP.fr
     have NE3 : Hid (∀ w', Below wr.heap.size wr w' -> HL 24 w' (.slice la L.length lc) (L.map LE.v)) := fun w' hf => NE2.out w' (hP.fr.trans (KFr.ofBelow hf))
     have HP : Hid (∀ w', Below wr.heap.size wr w' -> P2 92 2 mkLev w1 L gs gs.length w') := fun w' hf => hP.later hf
     have HG : Hid (∀ w', Below wr.heap.size wr w' -> HL 24 w' (.slice ga gs.length gc) gs) := fun w' hf => hG.later hf
     clear hP hG NE2 F1 hlo
     go_wp2
     clear hlt
     obtain ⟨w2, rfl⟩ : ∃ w2 : World, w2 = wr := ⟨_, rfl⟩
     go_loopw [11] (fun i wr => ∃ j : Nat, i = .int .i64 j /\ j <= L.length /\ Below w2.heap.size w2 wr) (fun i _ => L.length - (intOf i).toNat)
     case atStart => exact ⟨0, rfl, Nat.zero_le _, Below.refl _ _⟩
     case round =>
      obtain ⟨j, rfl, hj, hb⟩ := hrel
      by_cases hlt : j < L.length
      ·have hL := NE3.out wr hb
       obtain ⟨lb, rfl⟩ : ∃ lb, la = some ⟨lb, 0, none⟩ := by
        obtain ⟨g, c, e, _⟩ := hL.at j L[j].v (by simp [hlt])
        simp only [Value.slice.injEq] at e
        exact ⟨g, e.1⟩
       obtain ⟨eg, en, ec, HE, _⟩ := le_at hL hlt
       have hen := HN.out HE.out
       obtain ⟨xb, xc, hgs, _⟩ := (HP.out wr hb).lookE mkLev_len HE.out (by rw [hlx.out]; exact hlt)
       obtain ⟨gb, gc', e, _⟩ := (HG.out wr hb).at j _ hgs
       simp only [Value.slice.injEq] at e
       obtain ⟨rfl, _, rfl⟩ := e
       have AF : Hid (∀ w', Below w2.heap.size w2 w' -> w'.cell? ⟨lb, j, none⟩ = some (.slice (some ⟨eg, 0, none⟩) en ec) /\ w'.cell? ⟨gb, j, none⟩ = some (.slice (some ⟨xb, 0, none⟩) (en + 40) xc) /\ (∀ m, m < en + 40 -> w'.cell? ⟨xb, m * 2, none⟩ = some (.int .i64 (-5 - 100003 * ((j : Int) + 1) - 7 * (m : Int))) /\ w'.cell? ⟨xb, m * 2 + 1, none⟩ = some (.slice none 0 0)) /\ (∀ m, m < en -> w'.cell? ⟨eg, m * 2, none⟩ = some (.int .i64 (-5 - 100003 * ((j : Int) + 1) - 7 * (m : Int))) /\ w'.cell? ⟨eg, m * 2 + 1, none⟩ = some (.slice none 0 0))) := fun w' hb' => by
        obtain ⟨_, _, _, HE2, hcl⟩ := le_at (NE3.out w' hb') hlt
        have e2 := HE.out.symm.trans HE2.out
        simp only [Option.some.injEq, LE.mk.injEq] at e2
        obtain ⟨rfl, rfl, rfl⟩ := e2
        obtain ⟨xb2, xc2, hgs2, hnew⟩ := (HP.out w' hb').lookE mkLev_len HE.out (by rw [hlx.out]; exact hlt)
        have e3 := hgs.symm.trans hgs2
        simp only [Option.some.injEq, Value.slice.injEq, Addr.mk.injEq] at e3
        obtain ⟨⟨rfl, _⟩, _, rfl⟩ := e3
        obtain ⟨gb2, gc2, e, hcg⟩ := (HG.out w' hb').at j _ hgs
        simp only [Value.slice.injEq, Option.some.injEq, Addr.mk.injEq] at e
        obtain ⟨⟨rfl, _⟩, _⟩ := e
        exact ⟨hcl, hcg, fun m hm => ⟨by have := hnew m hm 0 (by omega); simpa [mkLev, markL] using this, by have := hnew m hm 1 (by omega); simpa [mkLev, markL] using this⟩, fun m hm => ⟨by have := (HP.out w' hb').lookOldE mkLev_len HE.out m hm 0 (by omega); simpa [mkLev, markL] using this, by have := (HP.out w' hb').lookOldE mkLev_len HE.out m hm 1 (by omega); simpa [mkLev, markL] using this⟩⟩
       obtain ⟨k1, k2, _, _⟩ := AF.out wr hb
       have hjg : j < gs.length := by rw [hlx.out]; exact hlt
       clear hgs hL
       go_wp2
       obtain ⟨wo, rfl⟩ : ∃ wo : World, wo = wr := ⟨_, rfl⟩
       go_loopw [12] (fun k wr => ∃ m : Nat, k = .int .i64 m /\ m <= en + 40 /\ Below w2.heap.size w2 wr) (fun k _ => en + 40 - (intOf k).toNat)
       case atStart => exact ⟨0, rfl, Nat.zero_le _, hb⟩
       case round =>
        clear hb k1 k2
        obtain ⟨m, rfl, hm, hb⟩ := hrel
        obtain ⟨k1, k2, _, _⟩ := AF.out wr hb
        by_cases hlm : m < en + 40
        ·skip
         have hd1 : decide ((m : Int) < (en : Int) + 40) = true := by simp; omega
         obtain ⟨q1, q2, q3', q4'⟩ := AF.out wr hb
         obtain ⟨q3, q5⟩ := q3' m hlm
         have hbn : ((-5 - 100003 * ((j : Int) + 1) - 7 * (m : Int)) != (-5 - 100003 * ((j : Int) + 1) - 7 * (m : Int))) = false := by simp
         clear q3' k1 k2
         by_cases hln : m < en
         ·obtain ⟨q6, q7⟩ := q4' m hln
          clear q4'
          have hx3 : ¬ (en + 40 <= m) := by omega
          go_wp2
          rw [levK_field]
          go_wp2
          go_roundw
          case rel => exact ⟨m + 1, by go_num, by omega, hb⟩
          case measure => simp [intOf]; omega
         ·clear q4'
          go_wp2
          rw [levK_field]
          go_wp2
          go_roundw
          case rel => exact ⟨m + 1, by go_num, by omega, hb⟩
          case measure => simp [intOf]; omega
        ·go_wp2
         go_roundw
         case rel => exact ⟨j + 1, by go_num, by omega, hb⟩
         case measure => simp [intOf]; omega
      ·go_wp2
       go_ret
       exact ⟨rfl, F2.out.trans (KFr.ofBelow hb)⟩
end Go.Proofs.YthgnhdnmcjpdmaaGreatDoor
namespace Go.Proofs.YthgnhdnmcjpdmaaGreatDoor
set_option linter.unusedVariables false
set_option maxRecDepth 100000
set_option maxHeartbeats 16000000
open Go.RowKit Go.Maps
def markP (i k : Nat) : Int := -5 - 100003 * ((i : Int) + 1) - 7 * (k : Int)
def mkProd (i k : Nat) : List Value := [.int .i64 (markP i k), .slice none 0 0, .int .i64 0]
theorem infoProdK : (Tryz.prog.info? 75).map (fun i => (i.zero, i.size, i.bytes)) = some (some (.agg #[.int .i64 0, .slice none 0 0, .int .i64 0]), 3, 40) := by kernel_rfl
theorem prodK_field (a : Value) (w : World) : (Instr.field 75 (.agg #[a, .slice none 0 0, .int .i64 0]) 0).run Tryz.prog w = .ok a w := by kernel_rfl
theorem infoProdK_parts : ∃ i, Tryz.prog.info? 75 = some i /\ i.zero = some (.agg #[.int .i64 0, .slice none 0 0, .int .i64 0]) /\ i.size = 3 /\ i.bytes = 40 := by
 have h := infoProdK
 cases e : Tryz.prog.info? 75 with
 | none => rw [e] at h; cases h
 | some i => rw [e] at h; simp at h; exact ⟨i, rfl, h⟩
theorem infoPDK : SliceInfo 23 := sliceInfo_of (by kernel_rfl)
theorem mkProd_len : ∀ i k, (mkProd i k).length = 3 := fun _ _ => rfl
theorem three_new (w : World) (x y z : Value) (t : TypeId) : ∀ j u, [x, y, z][j]? = some u -> (w.alloc (.cells #[x, y, z] t)).cell? ⟨w.heap.size, j, none⟩ = some u := by
 intro j u hu
 rw [cellq_any (heap_alloc_new w _)]
 match j with
 | 0 => simp at hu ⊢; exact hu
 | 1 => simp at hu ⊢; exact hu
 | 2 => simp at hu ⊢; exact hu
 | (j + 3) => simp at hu
theorem P1I.set3 {t : TypeId} {mk : Nat -> Nat -> List Value} {w0 w : World} {L : List LE} {i k : Nat} (h : P1I t 3 mk w0 L i k w) (hi : i < L.length) (hk : k < L[i].n) (u v x : Value) (hu : mk i k = [u, v, x]) : P1I t 3 mk w0 L i (k + 1) (((w.setCell ⟨L[i].g, k * 3, none⟩ u).setCell ⟨L[i].g, k * 3 + 1, none⟩ v).setCell ⟨L[i].g, k * 3 + 2, none⟩ x) := by
 obtain ⟨X, h⟩ := h
 have hl : (X i).length = L[i].n * 3 := (h.row i hi).1
 refine ⟨fun j => if j = i then (((X j).set (k * 3) u).set (k * 3 + 1) v).set (k * 3 + 2) x else X j, fun j hj => ?_, h.nd, fun j hj hji => ?_, ?_, ((h.fr.trans (setCell_fr hi _ _)).trans (setCell_fr hi _ _)).trans (setCell_fr hi _ _)⟩
 ·by_cases e : j = i
  ·subst e
   simp only [if_pos]
   exact row_set (row_set (row_set (h.row j hj) _ u) _ v) _ x
  ·simp only [if_neg e]
   have hne : ∀ z, L[j].v.ownBlock = some z -> z ≠ L[i].g := fun z hz e2 => by
    simp [LE.v, Value.ownBlock] at hz
    exact h.nd j i hj hi e (hz.trans e2)
   exact row_keptB (row_keptB (row_keptB (h.row j hj) fun z hz => Below.heap_setCell _ _ _ _ (hne z hz)) fun z hz => Below.heap_setCell _ _ _ _ (hne z hz)) fun z hz => Below.heap_setCell _ _ _ _ (hne z hz)
 ·simp only [if_neg (show ¬ j = i by omega)]
  exact h.pre j hj hji
 ·simp only [if_pos]
  rw [show (k + 1) * 3 = k * 3 + 1 + 1 + 1 by omega, take_set1 (by rw [List.length_set, List.length_set]; omega), take_set1 (by rw [List.length_set]; omega), take_set1 (by omega), h.cur, marksC_succ, hu]
  simp
theorem P1I.set3E {t : TypeId} {mk : Nat -> Nat -> List Value} {w0 w : World} {L : List LE} {i k eg en ec : Nat} (h : P1I t 3 mk w0 L i k w) (he : L[i]? = some ⟨eg, en, ec⟩) (hk : k < en) (u v x : Value) (hu : mk i k = [u, v, x]) : P1I t 3 mk w0 L i (k + 1) (((w.setCell ⟨eg, k * 3, none⟩ u).setCell ⟨eg, k * 3 + 1, none⟩ v).setCell ⟨eg, k * 3 + 2, none⟩ x) := by
 obtain ⟨hi, e⟩ := List.getElem?_eq_some_iff.1 he
 have := h.set3 hi (by rw [e]; exact hk) u v x hu
 rwa [e] at this
theorem apart_prods (q : Nat) (lv : Value) (L : List LE) (X : Nat -> List Value) (w : World) (hq : w.cell? ⟨q, 10, none⟩ = some lv) (hl : HL 23 w lv (L.map LE.v)) (hrow : ∀ j (h : j < L.length), w.ownsRow 0 75 3 L[j].v L[j].n (X j)) (hnd : ∀ j j' (h : j < L.length) (h' : j' < L.length), j ≠ j' -> L[j].g ≠ L[j'].g) (hlen : L.length <= 100000000) (hn : ∀ e ∈ L, e.n <= 100000000) :
  Calls Tryz.prog 53 #[.pointer (some ⟨q, 0, none⟩)] w fun e w' => e = .returned (.bool true) /\ KFr L w w' := by
 obtain ⟨i0, hi, hz0, hz1, hz2⟩ := infoProdK_parts
 have PS : Hid (P1I 75 3 mkProd w L 0 0 w) := P1I.start hrow hnd
 have NE : Hid (∀ w', KFr L w w' -> HL 23 w' lv (L.map LE.v)) := fun w' hf => hl.setK hf fun e he => by
  obtain ⟨j, hj, rfl⟩ := List.getElem_of_mem he
  obtain ⟨cur, h1, _⟩ := row_block (hrow j hj)
  exact hl.ne h1 (by decide)
 have HN : Hid (∀ {j eg en ec : Nat}, L[j]? = some ⟨eg, en, ec⟩ -> en <= 100000000) := fun {j eg en ec} he => hn ⟨eg, en, ec⟩ (List.mem_of_getElem? he)
 have LT : Hid (∀ z, lv.ownBlock = some z -> z < w.heap.size) := hl.lt
 obtain ⟨la, lc, rfl⟩ := hl.slice
 rw [List.length_map] at hq NE LT
 clear hrow hnd hn hl
 go_enter Tryz.func53, Tryz.ntmps53
 go_wp2
 go_loopw [4] (fun i wr => ∃ j : Nat, i = .int .i64 j /\ j <= L.length /\ P1I 75 3 mkProd w L j 0 wr) (fun i _ => L.length - (intOf i).toNat)
 case atStart => exact ⟨0, rfl, Nat.zero_le _, PS.out⟩
 case round =>
  clear PS hq
  obtain ⟨j, rfl, hj, hP⟩ := hrel
  by_cases hlt : j < L.length
  ·have hL := NE.out wr hP.fr
   obtain ⟨lb, rfl⟩ : ∃ lb, la = some ⟨lb, 0, none⟩ := by
    obtain ⟨g, c, e, _⟩ := hL.at j L[j].v (by simp [hlt])
    simp only [Value.slice.injEq] at e
    exact ⟨g, e.1⟩
   obtain ⟨eg, en, ec, HE, hcl⟩ := le_at hL hlt
   have hen := HN.out HE.out
   go_wp2
   obtain ⟨wo, rfl⟩ : ∃ wo : World, wo = wr := ⟨_, rfl⟩
   go_loopw [5] (fun k wr => ∃ m : Nat, k = .int .i64 m /\ m <= en /\ P1I 75 3 mkProd w L j m wr) (fun k _ => en - (intOf k).toNat)
   case atStart => exact ⟨0, rfl, Nat.zero_le _, hP⟩
   case round =>
    clear hP hL hcl
    obtain ⟨m, rfl, hm, hP⟩ := hrel
    obtain ⟨_, _, _, HE2, hcl⟩ := le_at (NE.out wr hP.fr) hlt
    have := HE.out.symm.trans HE2.out
    simp only [Option.some.injEq, LE.mk.injEq] at this
    obtain ⟨rfl, rfl, rfl⟩ := this
    clear HE2
    by_cases hlm : m < en
    ·have HP : Hid (P1I 75 3 mkProd w L j m wr) := hP
     have AF : Hid (∀ w4, Below wr.heap.size wr w4 -> (∃ u, w4.cell? ⟨eg, m * 3, none⟩ = some u) /\ (∃ u, w4.cell? ⟨eg, m * 3 + 1, none⟩ = some u) /\ (∃ u, w4.cell? ⟨eg, m * 3 + 2, none⟩ = some u) /\ w4.frozen? ⟨eg, m * 3, none⟩ = false /\ w4.frozen? ⟨eg, m * 3 + 1, none⟩ = false /\ w4.frozen? ⟨eg, m * 3 + 2, none⟩ = false /\ w4.cell? ⟨lb, j, none⟩ = some (.slice (some ⟨eg, 0, none⟩) en ec)) := fun w4 hb => by
      have h4 := HP.out.later hb
      refine ⟨h4.cellE HE.out _ (by omega), h4.cellE HE.out _ (by omega), h4.cellE HE.out _ (by omega), h4.freeE HE.out _, h4.freeE HE.out _, h4.freeE HE.out _, ?_⟩
      obtain ⟨_, _, _, HE2, hcl⟩ := le_at (NE.out w4 h4.fr) hlt
      have := HE.out.symm.trans HE2.out
      simp only [Option.some.injEq, LE.mk.injEq] at this
      obtain ⟨rfl, rfl, rfl⟩ := this
      exact hcl
     obtain ⟨⟨u0, cu0⟩, ⟨v0, cv0⟩, ⟨x0, cx0⟩, fu0, fv0, fx0, _⟩ := AF.out wr (Below.refl _ _)
     clear hP
     go_wp2
     go_roundw
     case rel => exact ⟨m + 1, by go_num, by omega, HP.out.set3E HE.out hlm _ _ _ rfl⟩
     case measure => simp [intOf]; omega
    ·obtain rfl : m = en := by omega
     go_wp2
     go_roundw
     case rel => exact ⟨j + 1, by go_num, by omega, hP.nextE HE.out⟩
     case measure => simp [intOf]; omega
  ·obtain rfl : j = L.length := by omega
   have F1 : Hid (KFr L w wr) := hP.fr
   have HP2 : Hid (P2 75 3 mkProd wr L [] ([] : List Value).length wr) := P2.start hP
   have NE2 : Hid (∀ w', KFr L wr w' -> HL 23 w' (.slice la L.length lc) (L.map LE.v)) := fun w' hf => NE.out w' (F1.out.trans hf)
   have INF : Hid (Tryz.prog.info? 75 = some i0 /\ i0.zero = some (.agg #[.int .i64 0, .slice none 0 0, .int .i64 0]) /\ i0.size = 3 /\ i0.bytes = 40) := ⟨hi, hz0, hz1, hz2⟩
   clear hP NE LT hlt hj hi hz0 hz1 hz2
   go_wp2
   obtain ⟨w1, rfl⟩ : ∃ w1 : World, w1 = wr := ⟨_, rfl⟩
   go_loopw [6, 7] (fun gr i wr => ∃ gs : List Value, i = .int .i64 gs.length /\ P2 75 3 mkProd w1 L gs gs.length wr /\ HL 23 wr gr gs /\ (∀ z, gr.ownBlock = some z -> w1.heap.size <= z)) (fun _ i _ => L.length - (intOf i).toNat)
   case atStart => exact ⟨[], rfl, HP2.out, HL.nil _ _, fun z hz => by simp [Value.ownBlock] at hz⟩
   case round =>
    clear HP2
    obtain ⟨gs, rfl, hP, hG, hlo'⟩ := hrel
    have hlo : Hid _ := hlo'
    clear hlo'
    obtain ⟨ga, gc, rfl⟩ := hG.slice
    by_cases hlt : gs.length < L.length
    ·have hL := NE2.out wr hP.fr
     obtain ⟨lb, rfl⟩ : ∃ lb, la = some ⟨lb, 0, none⟩ := by
      obtain ⟨g, c, e, _⟩ := hL.at gs.length L[gs.length].v (by simp [hlt])
      simp only [Value.slice.injEq] at e
      exact ⟨g, e.1⟩
     obtain ⟨eg, en, ec, HE, hcl⟩ := le_at hL hlt
     have hen := HN.out HE.out
     have HB : Hid (P2g 75 3 mkProd w1 L gs 0 (.slice (some ⟨eg, 0, none⟩) en ec) wr) := hP.beginE HE.out
     clear hP hL
     go_wp2
     obtain ⟨wo, rfl⟩ : ∃ wo : World, wo = wr := ⟨_, rfl⟩
     go_loopw [8, 9] (fun g k wr => ∃ m : Nat, k = .int .i64 m /\ m <= 40 /\ P2g 75 3 mkProd w1 L gs m g wr /\ HL 23 wr (.slice ga gs.length gc) gs) (fun _ k _ => 40 - (intOf k).toNat)
     case atStart => exact ⟨0, rfl, by omega, HB.out, hG⟩
     case round =>
      clear HB hG hcl
      obtain ⟨m, rfl, hm, hg', hG'⟩ := hrel
      have hg : Hid (P2g 75 3 mkProd w1 L gs m _ wr) := hg'
      have hG : Hid (HL 23 wr (.slice ga gs.length gc) gs) := hG'
      have hcur : Hid _ := hg'.curE HE.out
      obtain ⟨ca, cc, rfl⟩ := row_slice hcur.out
      clear hg' hG'
      by_cases hlm : m < 40
      ·go_wp2_with (first
        | (at_builtin; refine wpList_row_append Tryz.underlying23 INF.out.1 INF.out.2.1 INF.out.2.2.1 INF.out.2.2.2 rfl (by decide) (by decide) rfl _ _ rfl _ (en + m) _ rfl (row_later hcur.out (below_alloc wr _)) wr.heap.size 1 (mkProd gs.length (en + m)) rfl rfl (three_new wr _ _ _ _) (by intro u hu; simp [mkProd] at hu; rcases hu with rfl | rfl | rfl <;> rfl) (by omega) ?_; intro v5 w5 ho5 ha5))
       go_roundw
       case rel => exact ⟨m + 1, by go_num, by omega, (hg.out.later (below_alloc wr _)).appE HE.out ha5 ho5, (hG.out.later (below_alloc wr _)).app (row_later hcur.out (below_alloc wr _)) (by decide) ha5⟩
       case measure => simp [intOf]; omega
      ·obtain rfl : m = 40 := by omega
       go_wp2_with (at_builtin; refine wpList_hl_append Tryz.underlying42 infoPDK rfl _ _ rfl (.slice ga gs.length gc) gs rfl (hG.out.later (below_alloc wr _)) wr.heap.size 1 _ rfl (one_new wr _ _ 0 _ rfl) rfl (by omega) ?_; intro v6 w6 hl6 hg6)
       go_roundw
       case rel =>
        refine ⟨gs ++ [.slice ca (en + 40) cc], by simp, (hg.out.later (below_alloc wr _)).fin (hG.out.later (below_alloc wr _)) (by decide) hlo.out hg6.grown, hl6, fun z hz => ?_⟩
        rcases hg6.moved with r | ⟨k, r, hk⟩
        ·exact hlo.out z (r ▸ hz)
        ·rw [hz] at r
         have := Option.some.inj r
         have h1 := hg.out.p.fr.size
         have h2 : wr.heap.size <= (wr.alloc (.cells #[.slice ca (en + 40) cc] 23)).heap.size := (below_alloc wr _).size
         omega
       case measure => simp [intOf]; omega
    ·have hlx : Hid (gs.length = L.length) := by have := hP.len; show _ = _; omega
     have F2 : Hid (KFr L w wr) := F1.out.trans hP.fr
     have NE3 : Hid (∀ w', Below wr.heap.size wr w' -> HL 23 w' (.slice la L.length lc) (L.map LE.v)) := fun w' hf => NE2.out w' (hP.fr.trans (KFr.ofBelow hf))
     have HP : Hid (∀ w', Below wr.heap.size wr w' -> P2 75 3 mkProd w1 L gs gs.length w') := fun w' hf => hP.later hf
     have HG : Hid (∀ w', Below wr.heap.size wr w' -> HL 23 w' (.slice ga gs.length gc) gs) := fun w' hf => hG.later hf
     clear hP hG NE2 F1 hlo
     go_wp2
     clear hlt
     obtain ⟨w2, rfl⟩ : ∃ w2 : World, w2 = wr := ⟨_, rfl⟩
     go_loopw [11] (fun i wr => ∃ j : Nat, i = .int .i64 j /\ j <= L.length /\ Below w2.heap.size w2 wr) (fun i _ => L.length - (intOf i).toNat)
     case atStart => exact ⟨0, rfl, Nat.zero_le _, Below.refl _ _⟩
     case round =>
      obtain ⟨j, rfl, hj, hb⟩ := hrel
      by_cases hlt : j < L.length
      ·have hL := NE3.out wr hb
       obtain ⟨lb, rfl⟩ : ∃ lb, la = some ⟨lb, 0, none⟩ := by
        obtain ⟨g, c, e, _⟩ := hL.at j L[j].v (by simp [hlt])
        simp only [Value.slice.injEq] at e
        exact ⟨g, e.1⟩
       obtain ⟨eg, en, ec, HE, _⟩ := le_at hL hlt
       have hen := HN.out HE.out
       obtain ⟨xb, xc, hgs, _⟩ := (HP.out wr hb).lookE mkProd_len HE.out (by rw [hlx.out]; exact hlt)
       obtain ⟨gb, gc', e, _⟩ := (HG.out wr hb).at j _ hgs
       simp only [Value.slice.injEq] at e
       obtain ⟨rfl, _, rfl⟩ := e
       have AF : Hid (∀ w', Below w2.heap.size w2 w' -> w'.cell? ⟨lb, j, none⟩ = some (.slice (some ⟨eg, 0, none⟩) en ec) /\ w'.cell? ⟨gb, j, none⟩ = some (.slice (some ⟨xb, 0, none⟩) (en + 40) xc) /\ (∀ m, m < en + 40 -> w'.cell? ⟨xb, m * 3, none⟩ = some (.int .i64 (-5 - 100003 * ((j : Int) + 1) - 7 * (m : Int))) /\ w'.cell? ⟨xb, m * 3 + 1, none⟩ = some (.slice none 0 0)) /\ (∀ m, m < en -> w'.cell? ⟨eg, m * 3, none⟩ = some (.int .i64 (-5 - 100003 * ((j : Int) + 1) - 7 * (m : Int))) /\ w'.cell? ⟨eg, m * 3 + 1, none⟩ = some (.slice none 0 0))) := fun w' hb' => by
        obtain ⟨_, _, _, HE2, hcl⟩ := le_at (NE3.out w' hb') hlt
        have e2 := HE.out.symm.trans HE2.out
        simp only [Option.some.injEq, LE.mk.injEq] at e2
        obtain ⟨rfl, rfl, rfl⟩ := e2
        obtain ⟨xb2, xc2, hgs2, hnew⟩ := (HP.out w' hb').lookE mkProd_len HE.out (by rw [hlx.out]; exact hlt)
        have e3 := hgs.symm.trans hgs2
        simp only [Option.some.injEq, Value.slice.injEq, Addr.mk.injEq] at e3
        obtain ⟨⟨rfl, _⟩, _, rfl⟩ := e3
        obtain ⟨gb2, gc2, e, hcg⟩ := (HG.out w' hb').at j _ hgs
        simp only [Value.slice.injEq, Option.some.injEq, Addr.mk.injEq] at e
        obtain ⟨⟨rfl, _⟩, _⟩ := e
        exact ⟨hcl, hcg, fun m hm => ⟨by have := hnew m hm 0 (by omega); simpa [mkProd, markP] using this, by have := hnew m hm 1 (by omega); simpa [mkProd, markP] using this⟩, fun m hm => ⟨by have := (HP.out w' hb').lookOldE mkProd_len HE.out m hm 0 (by omega); simpa [mkProd, markP] using this, by have := (HP.out w' hb').lookOldE mkProd_len HE.out m hm 1 (by omega); simpa [mkProd, markP] using this⟩⟩
       obtain ⟨k1, k2, _, _⟩ := AF.out wr hb
       have hjg : j < gs.length := by rw [hlx.out]; exact hlt
       clear hgs hL
       go_wp2
       obtain ⟨wo, rfl⟩ : ∃ wo : World, wo = wr := ⟨_, rfl⟩
       go_loopw [12] (fun k wr => ∃ m : Nat, k = .int .i64 m /\ m <= en + 40 /\ Below w2.heap.size w2 wr) (fun k _ => en + 40 - (intOf k).toNat)
       case atStart => exact ⟨0, rfl, Nat.zero_le _, hb⟩
       case round =>
        clear hb k1 k2
        obtain ⟨m, rfl, hm, hb⟩ := hrel
        obtain ⟨k1, k2, _, _⟩ := AF.out wr hb
        by_cases hlm : m < en + 40
        ·skip
         have hd1 : decide ((m : Int) < (en : Int) + 40) = true := by simp; omega
         obtain ⟨q1, q2, q3', q4'⟩ := AF.out wr hb
         obtain ⟨q3, q5⟩ := q3' m hlm
         have hbn : ((-5 - 100003 * ((j : Int) + 1) - 7 * (m : Int)) != (-5 - 100003 * ((j : Int) + 1) - 7 * (m : Int))) = false := by simp
         clear q3' k1 k2
         by_cases hln : m < en
         ·obtain ⟨q6, q7⟩ := q4' m hln
          clear q4'
          have hx3 : ¬ (en + 40 <= m) := by omega
          go_wp2
          rw [prodK_field]
          go_wp2
          go_roundw
          case rel => exact ⟨m + 1, by go_num, by omega, hb⟩
          case measure => simp [intOf]; omega
         ·clear q4'
          go_wp2
          rw [prodK_field]
          go_wp2
          go_roundw
          case rel => exact ⟨m + 1, by go_num, by omega, hb⟩
          case measure => simp [intOf]; omega
        ·go_wp2
         go_roundw
         case rel => exact ⟨j + 1, by go_num, by omega, hb⟩
         case measure => simp [intOf]; omega
      ·go_wp2
       go_ret
       exact ⟨rfl, F2.out.trans (KFr.ofBelow hb)⟩
end Go.Proofs.YthgnhdnmcjpdmaaGreatDoor
