import Derived.Test.YtlkkllehaabebabPKBaseToKNil
import Derived.Deep.RegionWith
namespace Go.Proofs.Ytlkkllehaabebab
set_option linter.unusedVariables false
set_option maxRecDepth 100000
set_option maxHeartbeats 16000000
open Go.RowKit Go.Maps
def markI (i k : Nat) : Int := -1 - 100003 * ((i : Int) + 1) - 7 * (k : Int)
def mkInt (i k : Nat) : List Value := [.int .i64 (markI i k)]
theorem infoIntK : (Try.prog.info? 3).map (fun i => (i.zero, i.size, i.bytes)) = some (some (.int .i64 0), 1, 8) := by kernel_rfl
theorem infoIntK_parts : ∃ i, Try.prog.info? 3 = some i /\ i.zero = some (.int .i64 0) /\ i.size = 1 /\ i.bytes = 8 := by
 have h := infoIntK
 cases e : Try.prog.info? 3 with
 | none => rw [e] at h; cases h
 | some i => rw [e] at h; simp at h; exact ⟨i, rfl, h⟩
theorem markint_ik (i k : Nat) (w : World) (hi : i <= 100000000) (hk : k <= 1000000000) :
  Calls Try.prog 51 #[.int .i64 i, .int .i64 k] w fun e w' => e = .returned (.int .i64 (markI i k)) /\ w = w' := by
 go_enter Try.func51, Try.ntmps51
 go_wp2
 go_ret
 exact ⟨rfl, rfl⟩
theorem enter_markI (args : Array Value) (w : World) : (callFunc 51 args).run Try.prog w = .ok (.enter 51 args) w := by kernel_rfl
theorem step_markI {ops : Array Oper} {o : Oper} {a : Act} {w : World} {K : Act -> World -> Prop} {Q : Exit -> Act -> World -> Prop} {E : Prop}
  (hg : o.guard = none) (x y : Operand) (hop : o.op = Op.call { callee := Callee.value (Operand.func 51), args := #[x, y], argTypes := #[3, 3] })
  (i k : Nat) (hx : a.eval x = .int .i64 i) (hy : a.eval y = .int .i64 k) (hi : i <= 100000000) (hk : k <= 1000000000)
  (hK : K (a.put o.dst (.int .i64 (markI i k))) w) :
  if Region.wanted o (yielded ops a.tmps) = true then Oper.wp Try.prog o a w K Q else E := by
 have hw : Region.wanted o (yielded ops a.tmps) = true := by simp [Region.wanted, hg]
 rw [if_pos hw]
 have hf : a.eval (Operand.func 51) = .func (.func 51) #[] #[] := rfl
 have hcf := enter_markI #[.int .i64 i, .int .i64 k] w
 have e : (execOp a.eval o).run Try.prog w = .ok (.enter 51 #[.int .i64 i, .int .i64 k]) w := by
  simp [execOp, hop, resolve, invoke, hx, hy, hf, Deferred.ofValue, hcf]
 show o.upon Try.prog a K Q ((execOp a.eval o).run Try.prog w)
 rw [e, Oper.upon_enter]
 refine (markint_ik i k w hi hk).mono ?_
 rintro e w' ⟨rfl, rfl⟩
 exact hK
theorem infoINK : SliceInfo 57 := sliceInfo_of (by kernel_rfl)
theorem mkInt_len : ∀ i k, (mkInt i k).length = 1 := fun _ _ => rfl
theorem apart_ints (q : Nat) (lv : Value) (L : List LE) (X : Nat -> List Value) (w : World) (hq : w.cell? ⟨q, 1, none⟩ = some lv) (hl : HL 57 w lv (L.map LE.v)) (hrow : ∀ j (h : j < L.length), w.ownsRow 0 3 1 L[j].v L[j].n (X j)) (hnd : ∀ j j' (h : j < L.length) (h' : j' < L.length), j ≠ j' -> L[j].g ≠ L[j'].g) (hlen : L.length <= 100000000) (hn : ∀ e ∈ L, e.n <= 100000000) :
  Calls Try.prog 18 #[.pointer (some ⟨q, 0, none⟩)] w fun e w' => e = .returned (.bool true) /\ KFr L w w' := by
 obtain ⟨i0, hi, hz0, hz1, hz2⟩ := infoIntK_parts
 have PS : Hid (P1I 3 1 mkInt w L 0 0 w) := P1I.start hrow hnd
 have NE : Hid (∀ w', KFr L w w' -> HL 57 w' lv (L.map LE.v)) := fun w' hf => hl.setK hf fun e he => by
  obtain ⟨j, hj, rfl⟩ := List.getElem_of_mem he
  obtain ⟨cur, h1, _⟩ := row_block (hrow j hj)
  exact hl.ne h1 (by decide)
 have HN : Hid (∀ {j eg en ec : Nat}, L[j]? = some ⟨eg, en, ec⟩ -> en <= 100000000) := fun {j eg en ec} he => hn ⟨eg, en, ec⟩ (List.mem_of_getElem? he)
 have LT : Hid (∀ z, lv.ownBlock = some z -> z < w.heap.size) := hl.lt
 obtain ⟨la, lc, rfl⟩ := hl.slice
 rw [List.length_map] at hq NE LT
 clear hrow hnd hn hl
 go_enter Try.func18, Try.ntmps18
 go_wp2
 go_loopw [4] (fun i wr => ∃ j : Nat, i = .int .i64 j /\ j <= L.length /\ P1I 3 1 mkInt w L j 0 wr) (fun i _ => L.length - (intOf i).toNat)
 case atStart => exact ⟨0, rfl, Nat.zero_le _, PS.out⟩
 case round =>
  clear PS hq
  obtain ⟨j, rfl, hj, hP⟩ := hrel
  by_cases hlt : j < L.length
  ·have hL := NE.out wr hP.fr
   obtain ⟨lb, rfl⟩ : ∃ lb, la = some ⟨lb, 0, none⟩ := by
    obtain ⟨g, c, e, _⟩ := hL.at j L[j].v (by simp [hlt])
    simp only [Value.slice.injEq] at e
    exact ⟨g, e.1⟩
   obtain ⟨eg, en, ec, HE, hcl⟩ := le_at hL hlt
   have hen := HN.out HE.out
   go_wp2
   obtain ⟨wo, rfl⟩ : ∃ wo : World, wo = wr := ⟨_, rfl⟩
   go_loopw [5] (fun k wr => ∃ m : Nat, k = .int .i64 m /\ m <= en /\ P1I 3 1 mkInt w L j m wr) (fun k _ => en - (intOf k).toNat)
   case atStart => exact ⟨0, rfl, Nat.zero_le _, hP⟩
   case round =>
    clear hP hL hcl
    obtain ⟨m, rfl, hm, hP⟩ := hrel
    obtain ⟨_, _, _, HE2, hcl⟩ := le_at (NE.out wr hP.fr) hlt
    have := HE.out.symm.trans HE2.out
    simp only [Option.some.injEq, LE.mk.injEq] at this
    obtain ⟨rfl, rfl, rfl⟩ := this
    clear HE2
    by_cases hlm : m < en
    ·have HP : Hid (P1I 3 1 mkInt w L j m wr) := hP
     have AF : Hid (∀ w4, Below wr.drew.heap.size wr.drew w4 -> (∃ u, w4.cell? ⟨eg, m, none⟩ = some u) /\ w4.frozen? ⟨eg, m, none⟩ = false /\ w4.cell? ⟨lb, j, none⟩ = some (.slice (some ⟨eg, 0, none⟩) en ec)) := fun w4 hb => by
      have h4 := HP.out.later (below_step (Below.refl _ _).drew hb)
      refine ⟨h4.cellE HE.out m (by omega), h4.freeE HE.out m, ?_⟩
      obtain ⟨_, _, _, HE2, hcl⟩ := le_at (NE.out w4 h4.fr) hlt
      have := HE.out.symm.trans HE2.out
      simp only [Option.some.injEq, LE.mk.injEq] at this
      obtain ⟨rfl, rfl, rfl⟩ := this
      exact hcl
     obtain ⟨⟨u0, cu0⟩, fu0, cl0⟩ := AF.out wr.drew (Below.refl _ _)
     clear hP
     go_wp2
     go_region_law (first
      | (refine step_markI (by rfl) _ _ (by rfl) j m (by rfl) (by rfl) (by omega) (by omega) ?_))
     all_goals go_wp2
     all_goals
      go_roundw
      case rel => exact ⟨m + 1, by go_num, by omega, (HP.out.later (Below.refl _ _).drew).set1E HE.out hlm _ rfl⟩
      case measure => simp [intOf]; omega
    ·obtain rfl : m = en := by omega
     go_wp2
     go_roundw
     case rel => exact ⟨j + 1, by go_num, by omega, hP.nextE HE.out⟩
     case measure => simp [intOf]; omega
  ·obtain rfl : j = L.length := by omega
   have F1 : Hid (KFr L w wr) := hP.fr
   have HP2 : Hid (P2 3 1 mkInt wr L [] ([] : List Value).length wr) := P2.start hP
   have NE2 : Hid (∀ w', KFr L wr w' -> HL 57 w' (.slice la L.length lc) (L.map LE.v)) := fun w' hf => NE.out w' (F1.out.trans hf)
   have INF : Hid (Try.prog.info? 3 = some i0 /\ i0.zero = some (.int .i64 0) /\ i0.size = 1 /\ i0.bytes = 8) := ⟨hi, hz0, hz1, hz2⟩
   clear hP NE LT hlt hj hi hz0 hz1 hz2
   go_wp2
   obtain ⟨w1, rfl⟩ : ∃ w1 : World, w1 = wr := ⟨_, rfl⟩
   go_loopw [6, 7] (fun gr i wr => ∃ gs : List Value, i = .int .i64 gs.length /\ P2 3 1 mkInt w1 L gs gs.length wr /\ HL 57 wr gr gs /\ (∀ z, gr.ownBlock = some z -> w1.heap.size <= z)) (fun _ i _ => L.length - (intOf i).toNat)
   case atStart => exact ⟨[], rfl, HP2.out, HL.nil _ _, fun z hz => by simp [Value.ownBlock] at hz⟩
   case round =>
    clear HP2
    obtain ⟨gs, rfl, hP, hG, hlo'⟩ := hrel
    have hlo : Hid _ := hlo'
    clear hlo'
    obtain ⟨ga, gc, rfl⟩ := hG.slice
    by_cases hlt : gs.length < L.length
    ·have hL := NE2.out wr hP.fr
     obtain ⟨lb, rfl⟩ : ∃ lb, la = some ⟨lb, 0, none⟩ := by
      obtain ⟨g, c, e, _⟩ := hL.at gs.length L[gs.length].v (by simp [hlt])
      simp only [Value.slice.injEq] at e
      exact ⟨g, e.1⟩
     obtain ⟨eg, en, ec, HE, hcl⟩ := le_at hL hlt
     have hen := HN.out HE.out
     have HB : Hid (P2g 3 1 mkInt w1 L gs 0 (.slice (some ⟨eg, 0, none⟩) en ec) wr) := hP.beginE HE.out
     clear hP hL
     go_wp2
     obtain ⟨wo, rfl⟩ : ∃ wo : World, wo = wr := ⟨_, rfl⟩
     go_loopw [8, 9] (fun g k wr => ∃ m : Nat, k = .int .i64 m /\ m <= 40 /\ P2g 3 1 mkInt w1 L gs m g wr /\ HL 57 wr (.slice ga gs.length gc) gs) (fun _ k _ => 40 - (intOf k).toNat)
     case atStart => exact ⟨0, rfl, by omega, HB.out, hG⟩
     case round =>
      clear HB hG hcl
      obtain ⟨m, rfl, hm, hg', hG'⟩ := hrel
      have hg : Hid (P2g 3 1 mkInt w1 L gs m _ wr) := hg'
      have hG : Hid (HL 57 wr (.slice ga gs.length gc) gs) := hG'
      have hcur : Hid _ := hg'.curE HE.out
      obtain ⟨ca, cc, rfl⟩ := row_slice hcur.out
      clear hg' hG'
      by_cases hlm : m < 40
      ·go_wp2_with (first
        | (go_at_call 51; refine (markint_ik gs.length (en + m) wr (by omega) (by omega)).mono ?_; rintro e w4 ⟨rfl, rfl⟩)
        | (at_builtin; refine wpList_row_append Try.underlying57 INF.out.1 INF.out.2.1 INF.out.2.2.1 INF.out.2.2.2 rfl (by decide) (by decide) rfl _ _ rfl _ (en + m) _ rfl (row_later hcur.out (below_alloc wr _)) wr.heap.size 1 (mkInt gs.length (en + m)) rfl rfl (one_new wr _ _) (by intro u hu; simp [mkInt] at hu; subst hu; rfl) (by omega) ?_; intro v5 w5 ho5 ha5))
       go_roundw
       case rel => exact ⟨m + 1, by go_num, by omega, (hg.out.later (below_alloc wr _)).appE HE.out ha5 ho5, (hG.out.later (below_alloc wr _)).app (row_later hcur.out (below_alloc wr _)) (by decide) ha5⟩
       case measure => simp [intOf]; omega
      ·obtain rfl : m = 40 := by omega
       go_wp2_with (at_builtin; refine wpList_hl_append Try.underlying30 infoINK rfl _ _ rfl (.slice ga gs.length gc) gs rfl (hG.out.later (below_alloc wr _)) wr.heap.size 1 _ rfl (one_new wr _ _ 0 _ rfl) rfl (by omega) ?_; intro v6 w6 hl6 hg6)
       go_roundw
       case rel =>
        refine ⟨gs ++ [.slice ca (en + 40) cc], by simp, (hg.out.later (below_alloc wr _)).fin (hG.out.later (below_alloc wr _)) (by decide) hlo.out hg6.grown, hl6, fun z hz => ?_⟩
        rcases hg6.moved with r | ⟨k, r, hk⟩
        ·exact hlo.out z (r ▸ hz)
        ·rw [hz] at r
         have := Option.some.inj r
         have h1 := hg.out.p.fr.size
         have h2 : wr.heap.size <= (wr.alloc (.cells #[.slice ca (en + 40) cc] 57)).heap.size := (below_alloc wr _).size
         omega
       case measure => simp [intOf]; omega
    ·have hlx : Hid (gs.length = L.length) := by have := hP.len; show _ = _; omega
     have F2 : Hid (KFr L w wr) := F1.out.trans hP.fr
     have NE3 : Hid (∀ w', Below wr.heap.size wr w' -> HL 57 w' (.slice la L.length lc) (L.map LE.v)) := fun w' hf => NE2.out w' (hP.fr.trans (KFr.ofBelow hf))
     have HP : Hid (∀ w', Below wr.heap.size wr w' -> P2 3 1 mkInt w1 L gs gs.length w') := fun w' hf => hP.later hf
     have HG : Hid (∀ w', Below wr.heap.size wr w' -> HL 57 w' (.slice ga gs.length gc) gs) := fun w' hf => hG.later hf
     clear hP hG NE2 F1 hlo
     go_wp2
     clear hlt
     obtain ⟨w2, rfl⟩ : ∃ w2 : World, w2 = wr := ⟨_, rfl⟩
     go_loopw [10] (fun i wr => ∃ j : Nat, i = .int .i64 j /\ j <= L.length /\ Below w2.heap.size w2 wr) (fun i _ => L.length - (intOf i).toNat)
     case atStart => exact ⟨0, rfl, Nat.zero_le _, Below.refl _ _⟩
     case round =>
      obtain ⟨j, rfl, hj, hb⟩ := hrel
      by_cases hlt : j < L.length
      ·have hL := NE3.out wr hb
       obtain ⟨lb, rfl⟩ : ∃ lb, la = some ⟨lb, 0, none⟩ := by
        obtain ⟨g, c, e, _⟩ := hL.at j L[j].v (by simp [hlt])
        simp only [Value.slice.injEq] at e
        exact ⟨g, e.1⟩
       obtain ⟨eg, en, ec, HE, _⟩ := le_at hL hlt
       have hen := HN.out HE.out
       obtain ⟨xb, xc, hgs, _⟩ := (HP.out wr hb).lookE mkInt_len HE.out (by rw [hlx.out]; exact hlt)
       obtain ⟨gb, gc', e, _⟩ := (HG.out wr hb).at j _ hgs
       simp only [Value.slice.injEq] at e
       obtain ⟨rfl, _, rfl⟩ := e
       have AF : Hid (∀ w', Below w2.heap.size w2 w' -> w'.cell? ⟨lb, j, none⟩ = some (.slice (some ⟨eg, 0, none⟩) en ec) /\ w'.cell? ⟨gb, j, none⟩ = some (.slice (some ⟨xb, 0, none⟩) (en + 40) xc) /\ (∀ m, m < en + 40 -> w'.cell? ⟨xb, m, none⟩ = some (.int .i64 (markI j m))) /\ (∀ m, m < en -> w'.cell? ⟨eg, m, none⟩ = some (.int .i64 (markI j m)))) := fun w' hb' => by
        obtain ⟨_, _, _, HE2, hcl⟩ := le_at (NE3.out w' hb') hlt
        have e2 := HE.out.symm.trans HE2.out
        simp only [Option.some.injEq, LE.mk.injEq] at e2
        obtain ⟨rfl, rfl, rfl⟩ := e2
        obtain ⟨xb2, xc2, hgs2, hnew⟩ := (HP.out w' hb').lookE mkInt_len HE.out (by rw [hlx.out]; exact hlt)
        have e3 := hgs.symm.trans hgs2
        simp only [Option.some.injEq, Value.slice.injEq, Addr.mk.injEq] at e3
        obtain ⟨⟨rfl, _⟩, _, rfl⟩ := e3
        obtain ⟨gb2, gc2, e, hcg⟩ := (HG.out w' hb').at j _ hgs
        simp only [Value.slice.injEq, Option.some.injEq, Addr.mk.injEq] at e
        obtain ⟨⟨rfl, _⟩, _⟩ := e
        exact ⟨hcl, hcg, fun m hm => by have := hnew m hm 0 (by omega); simpa [mkInt] using this, fun m hm => by have := (HP.out w' hb').lookOldE mkInt_len HE.out m hm 0 (by omega); simpa [mkInt] using this⟩
       obtain ⟨k1, k2, _, _⟩ := AF.out wr hb
       have hjg : j < gs.length := by rw [hlx.out]; exact hlt
       clear hgs hL
       go_wp2
       obtain ⟨wo, rfl⟩ : ∃ wo : World, wo = wr := ⟨_, rfl⟩
       go_loopw [11] (fun k wr => ∃ m : Nat, k = .int .i64 m /\ m <= en + 40 /\ Below w2.heap.size w2 wr) (fun k _ => en + 40 - (intOf k).toNat)
       case atStart => exact ⟨0, rfl, Nat.zero_le _, hb⟩
       case round =>
        clear hb k1 k2
        obtain ⟨m, rfl, hm, hb⟩ := hrel
        obtain ⟨k1, k2, _, _⟩ := AF.out wr hb
        by_cases hlm : m < en + 40
        ·have HC : Hid (∀ w4, Below wr.heap.size wr w4 -> _) := fun w4 hb4 => AF.out w4 (below_step hb hb4)
         have hd1 : decide ((m : Int) < (en : Int) + 40) = true := by simp; omega
         have hbn : ((markI j m) != (markI j m)) = false := by simp
         by_cases hln : m < en
         ·go_wp2_with (go_at_call 51; refine (markint_ik j m wr (by omega) (by omega)).mono ?_; rintro e w4 ⟨rfl, rfl⟩; have hb4 : Below wr.heap.size wr wr := Below.refl _ _; obtain ⟨q1, q2, q3', q4'⟩ := HC.out wr hb4; have q3 := q3' m hlm; have q4 := q4' m hln; clear q3' q4')
          go_roundw
          case rel => exact ⟨m + 1, by go_num, by omega, below_step hb hb4⟩
          case measure => simp [intOf]; omega
         ·go_wp2_with (go_at_call 51; refine (markint_ik j m wr (by omega) (by omega)).mono ?_; rintro e w4 ⟨rfl, rfl⟩; have hb4 : Below wr.heap.size wr wr := Below.refl _ _; obtain ⟨q1, q2, q3', q4'⟩ := HC.out wr hb4; have q3 := q3' m hlm; clear q3' q4')
          go_roundw
          case rel => exact ⟨m + 1, by go_num, by omega, below_step hb hb4⟩
          case measure => simp [intOf]; omega
        ·go_wp2
         go_roundw
         case rel => exact ⟨j + 1, by go_num, by omega, hb⟩
         case measure => simp [intOf]; omega
      ·go_wp2
       go_ret
       exact ⟨rfl, F2.out.trans (KFr.ofBelow hb)⟩
end Go.Proofs.Ytlkkllehaabebab
namespace Go.Proofs.Ytlkkllehaabebab
set_option linter.unusedVariables false
set_option maxRecDepth 100000
set_option maxHeartbeats 16000000
open Go.RowKit Go.Maps
def markBo (i k : Nat) : Bool := ((i : Int) + (k : Int)).tmod 2 == 0
def mkBool (i k : Nat) : List Value := [.bool (markBo i k)]
theorem infoBoolK : (Try.prog.info? 4).map (fun i => (i.zero, i.size, i.bytes)) = some (some (.bool false), 1, 1) := by kernel_rfl
theorem infoBoolK_parts : ∃ i, Try.prog.info? 4 = some i /\ i.zero = some (.bool false) /\ i.size = 1 /\ i.bytes = 1 := by
 have h := infoBoolK
 cases e : Try.prog.info? 4 with
 | none => rw [e] at h; cases h
 | some i => rw [e] at h; simp at h; exact ⟨i, rfl, h⟩
theorem markbool_ik (i k : Nat) (w : World) (hi : i <= 100000000) (hk : k <= 1000000000) :
  Calls Try.prog 53 #[.int .i64 i, .int .i64 k] w fun e w' => e = .returned (.bool (markBo i k)) /\ w = w' := by
 go_enter Try.func53, Try.ntmps53
 go_wp2
 go_ret
 exact ⟨rfl, rfl⟩
theorem enter_markBo (args : Array Value) (w : World) : (callFunc 53 args).run Try.prog w = .ok (.enter 53 args) w := by kernel_rfl
theorem step_markBo {ops : Array Oper} {o : Oper} {a : Act} {w : World} {K : Act -> World -> Prop} {Q : Exit -> Act -> World -> Prop} {E : Prop}
  (hg : o.guard = none) (x y : Operand) (hop : o.op = Op.call { callee := Callee.value (Operand.func 53), args := #[x, y], argTypes := #[3, 3] })
  (i k : Nat) (hx : a.eval x = .int .i64 i) (hy : a.eval y = .int .i64 k) (hi : i <= 100000000) (hk : k <= 1000000000)
  (hK : K (a.put o.dst (.bool (markBo i k))) w) :
  if Region.wanted o (yielded ops a.tmps) = true then Oper.wp Try.prog o a w K Q else E := by
 have hw : Region.wanted o (yielded ops a.tmps) = true := by simp [Region.wanted, hg]
 rw [if_pos hw]
 have hf : a.eval (Operand.func 53) = .func (.func 53) #[] #[] := rfl
 have hcf := enter_markBo #[.int .i64 i, .int .i64 k] w
 have e : (execOp a.eval o).run Try.prog w = .ok (.enter 53 #[.int .i64 i, .int .i64 k]) w := by
  simp [execOp, hop, resolve, invoke, hx, hy, hf, Deferred.ofValue, hcf]
 show o.upon Try.prog a K Q ((execOp a.eval o).run Try.prog w)
 rw [e, Oper.upon_enter]
 refine (markbool_ik i k w hi hk).mono ?_
 rintro e w' ⟨rfl, rfl⟩
 exact hK
theorem infoBNK : SliceInfo 51 := sliceInfo_of (by kernel_rfl)
theorem mkBool_len : ∀ i k, (mkBool i k).length = 1 := fun _ _ => rfl
theorem apart_bools (q : Nat) (lv : Value) (L : List LE) (X : Nat -> List Value) (w : World) (hq : w.cell? ⟨q, 3, none⟩ = some lv) (hl : HL 51 w lv (L.map LE.v)) (hrow : ∀ j (h : j < L.length), w.ownsRow 0 4 1 L[j].v L[j].n (X j)) (hnd : ∀ j j' (h : j < L.length) (h' : j' < L.length), j ≠ j' -> L[j].g ≠ L[j'].g) (hlen : L.length <= 100000000) (hn : ∀ e ∈ L, e.n <= 100000000) :
  Calls Try.prog 20 #[.pointer (some ⟨q, 0, none⟩)] w fun e w' => e = .returned (.bool true) /\ KFr L w w' := by
 obtain ⟨i0, hi, hz0, hz1, hz2⟩ := infoBoolK_parts
 have PS : Hid (P1I 4 1 mkBool w L 0 0 w) := P1I.start hrow hnd
 have NE : Hid (∀ w', KFr L w w' -> HL 51 w' lv (L.map LE.v)) := fun w' hf => hl.setK hf fun e he => by
  obtain ⟨j, hj, rfl⟩ := List.getElem_of_mem he
  obtain ⟨cur, h1, _⟩ := row_block (hrow j hj)
  exact hl.ne h1 (by decide)
 have HN : Hid (∀ {j eg en ec : Nat}, L[j]? = some ⟨eg, en, ec⟩ -> en <= 100000000) := fun {j eg en ec} he => hn ⟨eg, en, ec⟩ (List.mem_of_getElem? he)
 have LT : Hid (∀ z, lv.ownBlock = some z -> z < w.heap.size) := hl.lt
 obtain ⟨la, lc, rfl⟩ := hl.slice
 rw [List.length_map] at hq NE LT
 clear hrow hnd hn hl
 go_enter Try.func20, Try.ntmps20
 go_wp2
 go_loopw [4] (fun i wr => ∃ j : Nat, i = .int .i64 j /\ j <= L.length /\ P1I 4 1 mkBool w L j 0 wr) (fun i _ => L.length - (intOf i).toNat)
 case atStart => exact ⟨0, rfl, Nat.zero_le _, PS.out⟩
 case round =>
  clear PS hq
  obtain ⟨j, rfl, hj, hP⟩ := hrel
  by_cases hlt : j < L.length
  ·have hL := NE.out wr hP.fr
   obtain ⟨lb, rfl⟩ : ∃ lb, la = some ⟨lb, 0, none⟩ := by
    obtain ⟨g, c, e, _⟩ := hL.at j L[j].v (by simp [hlt])
    simp only [Value.slice.injEq] at e
    exact ⟨g, e.1⟩
   obtain ⟨eg, en, ec, HE, hcl⟩ := le_at hL hlt
   have hen := HN.out HE.out
   go_wp2
   obtain ⟨wo, rfl⟩ : ∃ wo : World, wo = wr := ⟨_, rfl⟩
   go_loopw [5] (fun k wr => ∃ m : Nat, k = .int .i64 m /\ m <= en /\ P1I 4 1 mkBool w L j m wr) (fun k _ => en - (intOf k).toNat)
   case atStart => exact ⟨0, rfl, Nat.zero_le _, hP⟩
   case round =>
    clear hP hL hcl
    obtain ⟨m, rfl, hm, hP⟩ := hrel
    obtain ⟨_, _, _, HE2, hcl⟩ := le_at (NE.out wr hP.fr) hlt
    have := HE.out.symm.trans HE2.out
    simp only [Option.some.injEq, LE.mk.injEq] at this
    obtain ⟨rfl, rfl, rfl⟩ := this
    clear HE2
    by_cases hlm : m < en
    ·have HP : Hid (P1I 4 1 mkBool w L j m wr) := hP
     have AF : Hid (∀ w4, Below wr.drew.heap.size wr.drew w4 -> (∃ u, w4.cell? ⟨eg, m, none⟩ = some u) /\ w4.frozen? ⟨eg, m, none⟩ = false /\ w4.cell? ⟨lb, j, none⟩ = some (.slice (some ⟨eg, 0, none⟩) en ec)) := fun w4 hb => by
      have h4 := HP.out.later (below_step (Below.refl _ _).drew hb)
      refine ⟨h4.cellE HE.out m (by omega), h4.freeE HE.out m, ?_⟩
      obtain ⟨_, _, _, HE2, hcl⟩ := le_at (NE.out w4 h4.fr) hlt
      have := HE.out.symm.trans HE2.out
      simp only [Option.some.injEq, LE.mk.injEq] at this
      obtain ⟨rfl, rfl, rfl⟩ := this
      exact hcl
     obtain ⟨⟨u0, cu0⟩, fu0, cl0⟩ := AF.out wr.drew (Below.refl _ _)
     clear hP
     go_wp2
     go_region_law (first
      | (refine step_markBo (by rfl) _ _ (by rfl) j m (by rfl) (by rfl) (by omega) (by omega) ?_))
     all_goals go_wp2
     all_goals
      go_roundw
      case rel => exact ⟨m + 1, by go_num, by omega, (HP.out.later (Below.refl _ _).drew).set1E HE.out hlm _ rfl⟩
      case measure => simp [intOf]; omega
    ·obtain rfl : m = en := by omega
     go_wp2
     go_roundw
     case rel => exact ⟨j + 1, by go_num, by omega, hP.nextE HE.out⟩
     case measure => simp [intOf]; omega
  ·obtain rfl : j = L.length := by omega
   have F1 : Hid (KFr L w wr) := hP.fr
   have HP2 : Hid (P2 4 1 mkBool wr L [] ([] : List Value).length wr) := P2.start hP
   have NE2 : Hid (∀ w', KFr L wr w' -> HL 51 w' (.slice la L.length lc) (L.map LE.v)) := fun w' hf => NE.out w' (F1.out.trans hf)
   have INF : Hid (Try.prog.info? 4 = some i0 /\ i0.zero = some (.bool false) /\ i0.size = 1 /\ i0.bytes = 1) := ⟨hi, hz0, hz1, hz2⟩
   clear hP NE LT hlt hj hi hz0 hz1 hz2
   go_wp2
   obtain ⟨w1, rfl⟩ : ∃ w1 : World, w1 = wr := ⟨_, rfl⟩
   go_loopw [6, 7] (fun gr i wr => ∃ gs : List Value, i = .int .i64 gs.length /\ P2 4 1 mkBool w1 L gs gs.length wr /\ HL 51 wr gr gs /\ (∀ z, gr.ownBlock = some z -> w1.heap.size <= z)) (fun _ i _ => L.length - (intOf i).toNat)
   case atStart => exact ⟨[], rfl, HP2.out, HL.nil _ _, fun z hz => by simp [Value.ownBlock] at hz⟩
   case round =>
    clear HP2
    obtain ⟨gs, rfl, hP, hG, hlo'⟩ := hrel
    have hlo : Hid _ := hlo'
    clear hlo'
    obtain ⟨ga, gc, rfl⟩ := hG.slice
    by_cases hlt : gs.length < L.length
    ·have hL := NE2.out wr hP.fr
     obtain ⟨lb, rfl⟩ : ∃ lb, la = some ⟨lb, 0, none⟩ := by
      obtain ⟨g, c, e, _⟩ := hL.at gs.length L[gs.length].v (by simp [hlt])
      simp only [Value.slice.injEq] at e
      exact ⟨g, e.1⟩
     obtain ⟨eg, en, ec, HE, hcl⟩ := le_at hL hlt
     have hen := HN.out HE.out
     have HB : Hid (P2g 4 1 mkBool w1 L gs 0 (.slice (some ⟨eg, 0, none⟩) en ec) wr) := hP.beginE HE.out
     clear hP hL
     go_wp2
     obtain ⟨wo, rfl⟩ : ∃ wo : World, wo = wr := ⟨_, rfl⟩
     go_loopw [8, 9] (fun g k wr => ∃ m : Nat, k = .int .i64 m /\ m <= 40 /\ P2g 4 1 mkBool w1 L gs m g wr /\ HL 51 wr (.slice ga gs.length gc) gs) (fun _ k _ => 40 - (intOf k).toNat)
     case atStart => exact ⟨0, rfl, by omega, HB.out, hG⟩
     case round =>
      clear HB hG hcl
      obtain ⟨m, rfl, hm, hg', hG'⟩ := hrel
      have hg : Hid (P2g 4 1 mkBool w1 L gs m _ wr) := hg'
      have hG : Hid (HL 51 wr (.slice ga gs.length gc) gs) := hG'
      have hcur : Hid _ := hg'.curE HE.out
      obtain ⟨ca, cc, rfl⟩ := row_slice hcur.out
      clear hg' hG'
      by_cases hlm : m < 40
      ·go_wp2_with (first
        | (go_at_call 53; refine (markbool_ik gs.length (en + m) wr (by omega) (by omega)).mono ?_; rintro e w4 ⟨rfl, rfl⟩)
        | (at_builtin; refine wpList_row_append Try.underlying51 INF.out.1 INF.out.2.1 INF.out.2.2.1 INF.out.2.2.2 rfl (by decide) (by decide) rfl _ _ rfl _ (en + m) _ rfl (row_later hcur.out (below_alloc wr _)) wr.heap.size 1 (mkBool gs.length (en + m)) rfl rfl (one_new wr _ _) (by intro u hu; simp [mkBool] at hu; subst hu; rfl) (by omega) ?_; intro v5 w5 ho5 ha5))
       go_roundw
       case rel => exact ⟨m + 1, by go_num, by omega, (hg.out.later (below_alloc wr _)).appE HE.out ha5 ho5, (hG.out.later (below_alloc wr _)).app (row_later hcur.out (below_alloc wr _)) (by decide) ha5⟩
       case measure => simp [intOf]; omega
      ·obtain rfl : m = 40 := by omega
       go_wp2_with (at_builtin; refine wpList_hl_append Try.underlying32 infoBNK rfl _ _ rfl (.slice ga gs.length gc) gs rfl (hG.out.later (below_alloc wr _)) wr.heap.size 1 _ rfl (one_new wr _ _ 0 _ rfl) rfl (by omega) ?_; intro v6 w6 hl6 hg6)
       go_roundw
       case rel =>
        refine ⟨gs ++ [.slice ca (en + 40) cc], by simp, (hg.out.later (below_alloc wr _)).fin (hG.out.later (below_alloc wr _)) (by decide) hlo.out hg6.grown, hl6, fun z hz => ?_⟩
        rcases hg6.moved with r | ⟨k, r, hk⟩
        ·exact hlo.out z (r ▸ hz)
        ·rw [hz] at r
         have := Option.some.inj r
         have h1 := hg.out.p.fr.size
         have h2 : wr.heap.size <= (wr.alloc (.cells #[.slice ca (en + 40) cc] 51)).heap.size := (below_alloc wr _).size
         omega
       case measure => simp [intOf]; omega
    ·have hlx : Hid (gs.length = L.length) := by have := hP.len; show _ = _; omega
     have F2 : Hid (KFr L w wr) := F1.out.trans hP.fr
     have NE3 : Hid (∀ w', Below wr.heap.size wr w' -> HL 51 w' (.slice la L.length lc) (L.map LE.v)) := fun w' hf => NE2.out w' (hP.fr.trans (KFr.ofBelow hf))
     have HP : Hid (∀ w', Below wr.heap.size wr w' -> P2 4 1 mkBool w1 L gs gs.length w') := fun w' hf => hP.later hf
     have HG : Hid (∀ w', Below wr.heap.size wr w' -> HL 51 w' (.slice ga gs.length gc) gs) := fun w' hf => hG.later hf
     clear hP hG NE2 F1 hlo
     go_wp2
     clear hlt
     obtain ⟨w2, rfl⟩ : ∃ w2 : World, w2 = wr := ⟨_, rfl⟩
     go_loopw [10] (fun i wr => ∃ j : Nat, i = .int .i64 j /\ j <= L.length /\ Below w2.heap.size w2 wr) (fun i _ => L.length - (intOf i).toNat)
     case atStart => exact ⟨0, rfl, Nat.zero_le _, Below.refl _ _⟩
     case round =>
      obtain ⟨j, rfl, hj, hb⟩ := hrel
      by_cases hlt : j < L.length
      ·have hL := NE3.out wr hb
       obtain ⟨lb, rfl⟩ : ∃ lb, la = some ⟨lb, 0, none⟩ := by
        obtain ⟨g, c, e, _⟩ := hL.at j L[j].v (by simp [hlt])
        simp only [Value.slice.injEq] at e
        exact ⟨g, e.1⟩
       obtain ⟨eg, en, ec, HE, _⟩ := le_at hL hlt
       have hen := HN.out HE.out
       obtain ⟨xb, xc, hgs, _⟩ := (HP.out wr hb).lookE mkBool_len HE.out (by rw [hlx.out]; exact hlt)
       obtain ⟨gb, gc', e, _⟩ := (HG.out wr hb).at j _ hgs
       simp only [Value.slice.injEq] at e
       obtain ⟨rfl, _, rfl⟩ := e
       have AF : Hid (∀ w', Below w2.heap.size w2 w' -> w'.cell? ⟨lb, j, none⟩ = some (.slice (some ⟨eg, 0, none⟩) en ec) /\ w'.cell? ⟨gb, j, none⟩ = some (.slice (some ⟨xb, 0, none⟩) (en + 40) xc) /\ (∀ m, m < en + 40 -> w'.cell? ⟨xb, m, none⟩ = some (.bool (markBo j m))) /\ (∀ m, m < en -> w'.cell? ⟨eg, m, none⟩ = some (.bool (markBo j m)))) := fun w' hb' => by
        obtain ⟨_, _, _, HE2, hcl⟩ := le_at (NE3.out w' hb') hlt
        have e2 := HE.out.symm.trans HE2.out
        simp only [Option.some.injEq, LE.mk.injEq] at e2
        obtain ⟨rfl, rfl, rfl⟩ := e2
        obtain ⟨xb2, xc2, hgs2, hnew⟩ := (HP.out w' hb').lookE mkBool_len HE.out (by rw [hlx.out]; exact hlt)
        have e3 := hgs.symm.trans hgs2
        simp only [Option.some.injEq, Value.slice.injEq, Addr.mk.injEq] at e3
        obtain ⟨⟨rfl, _⟩, _, rfl⟩ := e3
        obtain ⟨gb2, gc2, e, hcg⟩ := (HG.out w' hb').at j _ hgs
        simp only [Value.slice.injEq, Option.some.injEq, Addr.mk.injEq] at e
        obtain ⟨⟨rfl, _⟩, _⟩ := e
        exact ⟨hcl, hcg, fun m hm => by have := hnew m hm 0 (by omega); simpa [mkBool] using this, fun m hm => by have := (HP.out w' hb').lookOldE mkBool_len HE.out m hm 0 (by omega); simpa [mkBool] using this⟩
       obtain ⟨k1, k2, _, _⟩ := AF.out wr hb
       have hjg : j < gs.length := by rw [hlx.out]; exact hlt
       clear hgs hL
       go_wp2
       obtain ⟨wo, rfl⟩ : ∃ wo : World, wo = wr := ⟨_, rfl⟩
       go_loopw [11] (fun k wr => ∃ m : Nat, k = .int .i64 m /\ m <= en + 40 /\ Below w2.heap.size w2 wr) (fun k _ => en + 40 - (intOf k).toNat)
       case atStart => exact ⟨0, rfl, Nat.zero_le _, hb⟩
       case round =>
        clear hb k1 k2
        obtain ⟨m, rfl, hm, hb⟩ := hrel
        obtain ⟨k1, k2, _, _⟩ := AF.out wr hb
        by_cases hlm : m < en + 40
        ·have HC : Hid (∀ w4, Below wr.heap.size wr w4 -> _) := fun w4 hb4 => AF.out w4 (below_step hb hb4)
         have hd1 : decide ((m : Int) < (en : Int) + 40) = true := by simp; omega
         have hbn : ((markBo j m) != (markBo j m)) = false := by simp
         by_cases hln : m < en
         ·go_wp2_with (go_at_call 53; refine (markbool_ik j m wr (by omega) (by omega)).mono ?_; rintro e w4 ⟨rfl, rfl⟩; have hb4 : Below wr.heap.size wr wr := Below.refl _ _; obtain ⟨q1, q2, q3', q4'⟩ := HC.out wr hb4; have q3 := q3' m hlm; have q4 := q4' m hln; clear q3' q4')
          go_roundw
          case rel => exact ⟨m + 1, by go_num, by omega, below_step hb hb4⟩
          case measure => simp [intOf]; omega
         ·go_wp2_with (go_at_call 53; refine (markbool_ik j m wr (by omega) (by omega)).mono ?_; rintro e w4 ⟨rfl, rfl⟩; have hb4 : Below wr.heap.size wr wr := Below.refl _ _; obtain ⟨q1, q2, q3', q4'⟩ := HC.out wr hb4; have q3 := q3' m hlm; clear q3' q4')
          go_roundw
          case rel => exact ⟨m + 1, by go_num, by omega, below_step hb hb4⟩
          case measure => simp [intOf]; omega
        ·go_wp2
         go_roundw
         case rel => exact ⟨j + 1, by go_num, by omega, hb⟩
         case measure => simp [intOf]; omega
      ·go_wp2
       go_ret
       exact ⟨rfl, F2.out.trans (KFr.ofBelow hb)⟩
end Go.Proofs.Ytlkkllehaabebab
namespace Go.Proofs.Ytlkkllehaabebab
set_option linter.unusedVariables false
set_option maxRecDepth 100000
set_option maxHeartbeats 16000000
open Go.RowKit Go.Maps
structure KZ (q : Nat) (w : World) (V : Nat -> Value) (w' : World) (V' : Nat -> Value) : Prop where
 size : w.heap.size <= w'.heap.size
 block : ∀ k, k < w.heap.size -> k ≠ q -> (∀ i, (V i).ownBlock ≠ some k) -> w'.heap[k]? = w.heap[k]?
 own : ∀ i k, (V' i).ownBlock = some k -> (V i).ownBlock = some k ∨ w.heap.size <= k
theorem KZ.refl (q : Nat) (w : World) (V : Nat -> Value) : KZ q w V w V := ⟨Nat.le_refl _, fun _ _ _ _ => rfl, fun _ _ h => .inl h⟩
theorem KZ.of {q : Nat} {w w' : World} {V : Nat -> Value} (h : Below w.heap.size w w') : KZ q w V w' V := ⟨h.size, fun k hk _ _ => h.block k hk, fun _ _ h => .inl h⟩
theorem KZ.trans {q : Nat} {w w1 w2 : World} {V V1 V2 : Nat -> Value} (h : KZ q w V w1 V1) (h' : KZ q w1 V1 w2 V2) : KZ q w V w2 V2 := by
 refine ⟨Nat.le_trans h.size h'.size, fun k hk hq hn => ?_, fun i k hk => ?_⟩
 ·refine (h'.block k (Nat.lt_of_lt_of_le hk h.size) hq fun i e => ?_).trans (h.block k hk hq hn)
  rcases h.own i k e with e1 | e1
  ·exact hn i e1
  ·omega
 ·rcases h'.own i k hk with e1 | e1
  ·exact h.own i k e1
  ·exact .inr (Nat.le_trans h.size e1)
theorem KZ.store {q i : Nat} {w w' : World} {V : Nat -> Value} {v' : Value} (hg : Grew w w' (V i) v') : KZ q w V (w'.setCell ⟨q, i, none⟩ v') (kUpdV V i v') := by
 refine ⟨by simpa using hg.grown.size, fun k hk hq hn => ?_, fun j k hk => ?_⟩
 ·rw [Below.heap_setCell _ _ _ _ hq]
  exact hg.grown.block k hk (hn i ∘ Eq.symm)
 ·unfold kUpdV at hk
  split at hk
  ·rename_i e
   subst e
   rcases hg.moved with r | ⟨m, r, hm⟩
   ·exact .inl (r ▸ hk)
   ·rw [hk] at r; have := Option.some.inj r; exact .inr (by omega)
  ·exact .inl hk
theorem book_intsF (T : KT) (hT : T.Ok) (B q : Nat) (V : Nat -> Value) (E : Nat -> List LE) (w : World) (a : Option Addr) (n c : Nat) (X : List Value) (hK : KI T B w q V E) (ht : T.te 1 = 3 /\ T.sz 1 = 1 /\ T.tl 1 = 57) (hX : n ≠ 0 -> w.ownsRow 0 3 1 (.slice a n c) n X) (hlo : n ≠ 0 -> ∀ k, (Value.slice a n c).ownBlock = some k -> B <= k /\ ∀ x ∈ E 1, x.g ≠ k) (hlen : (E 1).length <= 100000000) :
  Calls Try.prog 8 #[.pointer (some ⟨q, 0, none⟩), .slice a n c] w fun e w' => e = .returned (.tuple #[]) /\ ∃ V' E', KI T B w' q V' E' /\ (∀ i, i ≠ 1 -> E' i = E i) /\ (E' 1 = E 1 ∨ ∃ g, a = some ⟨g, 0, none⟩ /\ n ≠ 0 /\ E' 1 = E 1 ++ [⟨g, n, c⟩]) /\ Below B w w' /\ KZ q w V w' V' := by
 by_cases h0 : n = 0
 ·subst h0
  have HK : Hid (KI T B w q V E) := hK
  clear hK hX hlo
  go_enter Try.func8, Try.ntmps8
  go_wp2
  go_end0
  exact ⟨rfl, V, E, HK.out, fun _ _ => rfl, .inl rfl, Below.refl _ _, KZ.refl _ _ _⟩
 ·obtain ⟨g, rfl⟩ : ∃ g, a = some ⟨g, 0, none⟩ := by
   rcases (hX h0).2 with ⟨e, h⟩ | ⟨g, cap, cur, e, _⟩
   ·exact absurd h h0
   ·simp only [Value.slice.injEq] at e
    exact ⟨g, e.1⟩
  have HK : Hid (KI T B (w.alloc (.cells #[.slice (some ⟨g, 0, none⟩) n c] 57)) q V E) := hK.later (below_alloc w _)
  have HX : Hid ((w.alloc (.cells #[.slice (some ⟨g, 0, none⟩) n c] 57)).ownsRow 0 3 1 (LE.mk g n c).v n X) := row_later (hX h0) (below_alloc w _)
  have HSZ : Hid (B <= w.heap.size) := hK.size
  have HO : Hid (B <= g /\ ∀ x ∈ E 1, x.g ≠ g) := hlo h0 g rfl
  have c0 := hK.cell (i := 1) (by omega)
  have R : Hid (HL 57 (w.alloc (.cells #[.slice (some ⟨g, 0, none⟩) n c] 57)) (V 1) ((E 1).map LE.v)) := by have := HK.out.row 1; rw [ht.2.2] at this; exact this
  have AF : Hid (∀ w5 L5, Grew (w.alloc (.cells #[.slice (some ⟨g, 0, none⟩) n c] 57)) w5 (V 1) L5 -> w5.cell? ⟨q, 1, none⟩ = some (V 1) /\ w5.frozen? ⟨q, 1, none⟩ = false) := fun w5 L5 hg => by
   have b := (hg.grown.block q (lt_of_block HK.out.hq) (HK.out.ne hT 1)).trans HK.out.hq
   exact ⟨by simp only [World.cell?, b]; exact kArr_get V (by omega), by simp [World.frozen?, b]⟩
  have HLE : Hid (((E 1).map LE.v).length <= 5000000000000) := by show _ <= _; simp; omega
  have HT : Hid (T.te 1 = 3 /\ T.sz 1 = 1 /\ T.tl 1 = 57) := ht
  have hn : (n : Int) > 0 := by omega
  clear hK hX hlo ht hlen
  generalize hV : V 1 = L at *
  go_enter Try.func8, Try.ntmps8
  go_wp2_with (at_builtin; refine wpList_hl_append Try.underlying30 infoINK rfl _ _ rfl L ((E 1).map LE.v) rfl R.out w.heap.size 1 (.slice (some ⟨g, 0, none⟩) n c) rfl (one_new w _ _ 0 _ rfl) rfl HLE.out ?_; intro L5 w5 hl5 hg5; obtain ⟨a5, N5, c5, rfl⟩ := hl5.slice3; obtain ⟨d1, d2⟩ := AF.out w5 _ hg5)
  go_end0
  obtain ⟨r1, r2⟩ := HK.out.store (i := 1) (v' := .slice a5 N5 c5) (e := ⟨g, n, c⟩) (X := X) hT (by rw [hV]; exact hg5) (by rw [HT.out.2.2]; exact hl5) (by rw [HT.out.1, HT.out.2.1]; exact HX.out) HO.out.2 HO.out.1
  exact ⟨rfl, _, _, r1, fun i hi => if_neg hi, .inr ⟨g, rfl, h0, if_pos rfl⟩, ((Below.refl B w).alloc HSZ.out _).trans r2, (KZ.of (below_alloc w _)).trans (KZ.store (by rw [hV]; exact hg5))⟩
theorem book_boolsF (T : KT) (hT : T.Ok) (B q : Nat) (V : Nat -> Value) (E : Nat -> List LE) (w : World) (a : Option Addr) (n c : Nat) (X : List Value) (hK : KI T B w q V E) (ht : T.te 3 = 4 /\ T.sz 3 = 1 /\ T.tl 3 = 51) (hX : n ≠ 0 -> w.ownsRow 0 4 1 (.slice a n c) n X) (hlo : n ≠ 0 -> ∀ k, (Value.slice a n c).ownBlock = some k -> B <= k /\ ∀ x ∈ E 3, x.g ≠ k) (hlen : (E 3).length <= 100000000) :
  Calls Try.prog 7 #[.pointer (some ⟨q, 0, none⟩), .slice a n c] w fun e w' => e = .returned (.tuple #[]) /\ ∃ V' E', KI T B w' q V' E' /\ (∀ i, i ≠ 3 -> E' i = E i) /\ (E' 3 = E 3 ∨ ∃ g, a = some ⟨g, 0, none⟩ /\ n ≠ 0 /\ E' 3 = E 3 ++ [⟨g, n, c⟩]) /\ Below B w w' /\ KZ q w V w' V' := by
 by_cases h0 : n = 0
 ·subst h0
  have HK : Hid (KI T B w q V E) := hK
  clear hK hX hlo
  go_enter Try.func7, Try.ntmps7
  go_wp2
  go_end0
  exact ⟨rfl, V, E, HK.out, fun _ _ => rfl, .inl rfl, Below.refl _ _, KZ.refl _ _ _⟩
 ·obtain ⟨g, rfl⟩ : ∃ g, a = some ⟨g, 0, none⟩ := by
   rcases (hX h0).2 with ⟨e, h⟩ | ⟨g, cap, cur, e, _⟩
   ·exact absurd h h0
   ·simp only [Value.slice.injEq] at e
    exact ⟨g, e.1⟩
  have HK : Hid (KI T B (w.alloc (.cells #[.slice (some ⟨g, 0, none⟩) n c] 51)) q V E) := hK.later (below_alloc w _)
  have HX : Hid ((w.alloc (.cells #[.slice (some ⟨g, 0, none⟩) n c] 51)).ownsRow 0 4 1 (LE.mk g n c).v n X) := row_later (hX h0) (below_alloc w _)
  have HSZ : Hid (B <= w.heap.size) := hK.size
  have HO : Hid (B <= g /\ ∀ x ∈ E 3, x.g ≠ g) := hlo h0 g rfl
  have c0 := hK.cell (i := 3) (by omega)
  have R : Hid (HL 51 (w.alloc (.cells #[.slice (some ⟨g, 0, none⟩) n c] 51)) (V 3) ((E 3).map LE.v)) := by have := HK.out.row 3; rw [ht.2.2] at this; exact this
  have AF : Hid (∀ w5 L5, Grew (w.alloc (.cells #[.slice (some ⟨g, 0, none⟩) n c] 51)) w5 (V 3) L5 -> w5.cell? ⟨q, 3, none⟩ = some (V 3) /\ w5.frozen? ⟨q, 3, none⟩ = false) := fun w5 L5 hg => by
   have b := (hg.grown.block q (lt_of_block HK.out.hq) (HK.out.ne hT 3)).trans HK.out.hq
   exact ⟨by simp only [World.cell?, b]; exact kArr_get V (by omega), by simp [World.frozen?, b]⟩
  have HLE : Hid (((E 3).map LE.v).length <= 5000000000000) := by show _ <= _; simp; omega
  have HT : Hid (T.te 3 = 4 /\ T.sz 3 = 1 /\ T.tl 3 = 51) := ht
  have hn : (n : Int) > 0 := by omega
  clear hK hX hlo ht hlen
  generalize hV : V 3 = L at *
  go_enter Try.func7, Try.ntmps7
  go_wp2_with (at_builtin; refine wpList_hl_append Try.underlying32 infoBNK rfl _ _ rfl L ((E 3).map LE.v) rfl R.out w.heap.size 1 (.slice (some ⟨g, 0, none⟩) n c) rfl (one_new w _ _ 0 _ rfl) rfl HLE.out ?_; intro L5 w5 hl5 hg5; obtain ⟨a5, N5, c5, rfl⟩ := hl5.slice3; obtain ⟨d1, d2⟩ := AF.out w5 _ hg5)
  go_end0
  obtain ⟨r1, r2⟩ := HK.out.store (i := 3) (v' := .slice a5 N5 c5) (e := ⟨g, n, c⟩) (X := X) hT (by rw [hV]; exact hg5) (by rw [HT.out.2.2]; exact hl5) (by rw [HT.out.1, HT.out.2.1]; exact HX.out) HO.out.2 HO.out.1
  exact ⟨rfl, _, _, r1, fun i hi => if_neg hi, .inr ⟨g, rfl, h0, if_pos rfl⟩, ((Below.refl B w).alloc HSZ.out _).trans r2, (KZ.of (below_alloc w _)).trans (KZ.store (by rw [hV]; exact hg5))⟩
end Go.Proofs.Ytlkkllehaabebab
namespace Go.Proofs.Ytlkkllehaabebab
set_option linter.unusedVariables false
set_option maxRecDepth 100000
set_option maxHeartbeats 16000000
open Go.RowKit Go.Maps
def kF : KT := ⟨fun i => match i with | 1 => 3 | 3 => 4 | _ => 5, fun i => match i with | 1 => 1 | 3 => 1 | _ => 1, fun i => match i with | 1 => 57 | 3 => 51 | _ => 57⟩
def slA (v : Value) : Option Addr := match v with | .slice a _ _ => a | _ => none
def slC (v : Value) : Nat := match v with | .slice _ _ c => c | _ => 0
structure KA (T : KT) (B : Nat) (w0 : World) (q : Nat) (V : Nat -> Value) (E : Nat -> List LE) (n : Nat) (w : World) : Prop where
 blk : w.heap[q]? = some (.cells (kArr V) 46 (0, 0))
 row : ∀ i, n <= i -> HL (T.tl i) w (V i) ((E i).map LE.v)
 own : ∀ i, n <= i -> ∃ X : Nat -> List Value, ∀ j (h : j < (E i).length), w.ownsRow 0 (T.te i) (T.sz i) (E i)[j].v (E i)[j].n (X j)
 size : B <= w.heap.size
 bel : Below B w0 w
section
variable {T : KT} {B : Nat} {w0 w w' : World} {q n : Nat} {V : Nat -> Value} {E : Nat -> List LE}
theorem KI.toA (h : KI T B w q V E) : KA T B w q V E 0 w := ⟨h.hq, fun i _ => h.row i, fun i _ => h.own i, h.size, Below.refl _ _⟩
theorem KA.skip (h : KA T B w0 q V E n w) : KA T B w0 q V E (n + 1) w := ⟨h.blk, fun i hi => h.row i (by omega), fun i hi => h.own i (by omega), h.size, h.bel⟩
theorem KA.block (h : KA T B w0 q V E n w) (hf : KFr (E n) w w') {k : Nat} {C : Array Value} {t : TypeId} (hk : w.heap[k]? = some (.cells C t (0, 0))) (ht : t ≠ T.te n) : w'.heap[k]? = w.heap[k]? :=
 hf.block k (lt_of_block hk) fun e he e2 => by
  obtain ⟨j, hj, rfl⟩ := List.getElem_of_mem he
  obtain ⟨X, hX⟩ := h.own n (Nat.le_refl _)
  obtain ⟨cur, h1, _⟩ := row_block (hX j hj)
  rw [e2, hk] at h1
  simp at h1
  exact ht h1.2
theorem KA.keep (h : KA T B w0 q V E n w) (hf : KFr (E n) w w') {t : TypeId} {sz m : Nat} {v : Value} {xs : List Value} (ho : w.ownsRow 0 t sz v m xs) (ht : t ≠ T.te n) : w'.ownsRow 0 t sz v m xs := row_keptB ho fun k hk => by
 rcases ho.2 with ⟨rfl, _⟩ | ⟨g, cap, cur, rfl, _, hb, _⟩
 ·simp [Value.ownBlock] at hk
 ·simp [Value.ownBlock] at hk
  subst hk
  exact h.block hf hb ht
theorem KA.next (h : KA T B w0 q V E n w) (hT : T.Ok) (hd : ∀ i, n + 1 <= i -> T.te i ≠ T.te n) (hlo : ∀ e ∈ E n, B <= e.g) (hf : KFr (E n) w w') : KA T B w0 q V E (n + 1) w' :=
 ⟨(h.block hf h.blk (hT.qe n)).trans h.blk, fun i hi => h.keep hf (h.row i (by omega)) (fun e => hT.el n i e.symm), fun i hi => by obtain ⟨X, hX⟩ := h.own i (by omega); exact ⟨X, fun j hj => h.keep hf (hX j hj) (hd i hi)⟩, Nat.le_trans h.size hf.size, h.bel.trans ⟨hf.os, hf.tape, hf.output, hf.size, fun k hk => hf.block k (Nat.lt_of_lt_of_le hk h.size) fun e he e2 => by have := hlo e he; omega⟩⟩
theorem KA.cell (h : KA T B w0 q V E n w) {i : Nat} (hi : i < 16) : w.cell? ⟨q, i, none⟩ = some (V i) := by
 simp only [World.cell?, h.blk]
 exact kArr_get V hi
theorem KA.nil (h : KA T B w0 q V E n w) {i : Nat} (hn : n <= i) (hi : i < 16) (hE : E i = []) : w.cell? ⟨q, i, none⟩ = some (.slice (slA (V i)) 0 (slC (V i))) := by
 have hr := h.row i hn
 rw [hE] at hr
 obtain ⟨a, c, e⟩ := hr.slice
 rw [h.cell hi, e]
 rfl
end
theorem kF_ok : kF.Ok := by
 refine ⟨fun i => ?_, fun i => ?_, fun i j => ?_⟩
 ·unfold kF; dsimp only; split <;> decide
 ·unfold kF; dsimp only; split <;> decide
 ·unfold kF; dsimp only; split <;> (split <;> decide)
theorem kF_ne (n : Nat) (hn : n ∈ [1, 3]) : ∀ i, n + 1 <= i -> kF.te i ≠ kF.te n := by
 intro i hi
 simp at hn
 rcases hn with rfl | rfl <;> (unfold kF; dsimp only; split <;> first | decide | omega)
theorem book_apartF (B q : Nat) (V : Nat -> Value) (E : Nat -> List LE) (w : World) (hK : KI kF B w q V E) (hno : ∀ i, i ∉ [1, 3] -> E i = []) (hl : ∀ i, (E i).length <= 100000000) (hn : ∀ i, ∀ e ∈ E i, e.n <= 100000000) :
  Calls Try.prog 9 #[.pointer (some ⟨q, 0, none⟩)] w fun e w' => e = .returned (.bool true) /\ Below B w w' := by
 have HK : Hid (KI kF B w q V E) := hK
 have HNO : Hid (∀ i, i ∉ [1, 3] -> E i = []) := hno
 have HLA : Hid (∀ i, (E i).length <= 100000000) := hl
 have HN : Hid (∀ i, ∀ e ∈ E i, e.n <= 100000000) := hn
 have A0 : Hid (KA kF B w q V E 0 w) := hK.toA
 clear hK hno hl hn
 go_enter Try.func9, Try.ntmps9
 go_wp2_with (first
  | (go_at_call 17; refine (apartnilBytes q (slA (V 0)) (slC (V 0)) w (A0.out.nil (i := 0) (Nat.le_refl _) (by omega) (HNO.out 0 (by decide)))).mono ?_; rintro e w' ⟨rfl, rfl⟩; have A1 : Hid (KA kF B w q V E 1 w) := A0.out.skip)
  | (go_at_call 18; obtain ⟨X1, hX1⟩ := A1.out.own 1 (Nat.le_refl _); refine (apart_ints q (V 1) (E 1) X1 w (A1.out.cell (by omega)) (A1.out.row 1 (Nat.le_refl _)) hX1 (HK.out.nd 1) (HLA.out 1) (HN.out 1)).mono ?_; rintro e w1 ⟨rfl, f1⟩; have A2 : Hid (KA kF B w q V E 2 w1) := A1.out.next kF_ok (kF_ne 1 (by decide)) (HK.out.loE 1) f1; clear hX1 f1)
  | (go_at_call 19; refine (apartnilStrings q (slA (V 2)) (slC (V 2)) w1 (A2.out.nil (i := 2) (Nat.le_refl _) (by omega) (HNO.out 2 (by decide)))).mono ?_; rintro e w' ⟨rfl, rfl⟩; have A3 : Hid (KA kF B w q V E 3 w1) := A2.out.skip)
  | (go_at_call 20; obtain ⟨X3, hX3⟩ := A3.out.own 3 (Nat.le_refl _); refine (apart_bools q (V 3) (E 3) X3 w1 (A3.out.cell (by omega)) (A3.out.row 3 (Nat.le_refl _)) hX3 (HK.out.nd 3) (HLA.out 3) (HN.out 3)).mono ?_; rintro e w3 ⟨rfl, f3⟩; have A4 : Hid (KA kF B w q V E 4 w3) := A3.out.next kF_ok (kF_ne 3 (by decide)) (HK.out.loE 3) f3; clear hX3 f3)
  | (go_at_call 21; refine (apartnilSyms q (slA (V 4)) (slC (V 4)) w3 (A4.out.nil (i := 4) (Nat.le_refl _) (by omega) (HNO.out 4 (by decide)))).mono ?_; rintro e w' ⟨rfl, rfl⟩; have A5 : Hid (KA kF B w q V E 5 w3) := A4.out.skip)
  | (go_at_call 22; refine (apartnilCores q (slA (V 5)) (slC (V 5)) w3 (A5.out.nil (i := 5) (Nat.le_refl _) (by omega) (HNO.out 5 (by decide)))).mono ?_; rintro e w' ⟨rfl, rfl⟩; have A6 : Hid (KA kF B w q V E 6 w3) := A5.out.skip)
  | (go_at_call 23; refine (apartnilActions q (slA (V 6)) (slC (V 6)) w3 (A6.out.nil (i := 6) (Nat.le_refl _) (by omega) (HNO.out 6 (by decide)))).mono ?_; rintro e w' ⟨rfl, rfl⟩; have A7 : Hid (KA kF B w q V E 7 w3) := A6.out.skip)
  | (go_at_call 24; refine (apartnilEdges q (slA (V 7)) (slC (V 7)) w3 (A7.out.nil (i := 7) (Nat.le_refl _) (by omega) (HNO.out 7 (by decide)))).mono ?_; rintro e w' ⟨rfl, rfl⟩; have A8 : Hid (KA kF B w q V E 8 w3) := A7.out.skip)
  | (go_at_call 25; refine (apartnilPairs q (slA (V 8)) (slC (V 8)) w3 (A8.out.nil (i := 8) (Nat.le_refl _) (by omega) (HNO.out 8 (by decide)))).mono ?_; rintro e w' ⟨rfl, rfl⟩; have A9 : Hid (KA kF B w q V E 9 w3) := A8.out.skip)
  | (go_at_call 26; refine (apartnilTokens q (slA (V 9)) (slC (V 9)) w3 (A9.out.nil (i := 9) (Nat.le_refl _) (by omega) (HNO.out 9 (by decide)))).mono ?_; rintro e w' ⟨rfl, rfl⟩; have A10 : Hid (KA kF B w q V E 10 w3) := A9.out.skip)
  | (go_at_call 27; refine (apartnilProds q (slA (V 10)) (slC (V 10)) w3 (A10.out.nil (i := 10) (Nat.le_refl _) (by omega) (HNO.out 10 (by decide)))).mono ?_; rintro e w' ⟨rfl, rfl⟩; have A11 : Hid (KA kF B w q V E 11 w3) := A10.out.skip)
  | (go_at_call 28; refine (apartnilLevels q (slA (V 11)) (slC (V 11)) w3 (A11.out.nil (i := 11) (Nat.le_refl _) (by omega) (HNO.out 11 (by decide)))).mono ?_; rintro e w' ⟨rfl, rfl⟩; have A12 : Hid (KA kF B w q V E 12 w3) := A11.out.skip)
  | (go_at_call 29; refine (apartnilItems q (slA (V 12)) (slC (V 12)) w3 (A12.out.nil (i := 12) (Nat.le_refl _) (by omega) (HNO.out 12 (by decide)))).mono ?_; rintro e w' ⟨rfl, rfl⟩; have A13 : Hid (KA kF B w q V E 13 w3) := A12.out.skip)
  | (go_at_call 30; refine (apartnilTrees q (slA (V 13)) (slC (V 13)) w3 (A13.out.nil (i := 13) (Nat.le_refl _) (by omega) (HNO.out 13 (by decide)))).mono ?_; rintro e w' ⟨rfl, rfl⟩; have A14 : Hid (KA kF B w q V E 14 w3) := A13.out.skip)
  | (go_at_call 31; refine (apartnilRows q (slA (V 14)) (slC (V 14)) w3 (A14.out.nil (i := 14) (Nat.le_refl _) (by omega) (HNO.out 14 (by decide)))).mono ?_; rintro e w' ⟨rfl, rfl⟩; have A15 : Hid (KA kF B w q V E 15 w3) := A14.out.skip)
  | (go_at_call 32; refine (apartnilConflicts q (slA (V 15)) (slC (V 15)) w3 (A15.out.nil (i := 15) (Nat.le_refl _) (by omega) (HNO.out 15 (by decide)))).mono ?_; rintro e w' ⟨rfl, rfl⟩; have A16 : Hid (KA kF B w q V E 16 w3) := A15.out.skip))
 go_ret
 exact ⟨rfl, A16.out.bel⟩
end Go.Proofs.Ytlkkllehaabebab
