import Derived.Test.YtjpknihkcndoiaaGreatPGOkToSCheckR
import Derived.Test.YtjpknihkcndoiaaGreatPFChk1ToFOf
import Derived.Test.YtjpknihkcndoiaaGreatPRegXToRRow
import Derived.Maps.Own
namespace Go.Proofs.YtjpknihkcndoiaaGreat
set_option linter.unusedVariables false
set_option maxRecDepth 100000
set_option maxHeartbeats 16000000
open Go.RowKit
def levU (ls : List LV) (t : Int) : Int := match ls.findIdx? fun l => l.terms.contains t with
 | some i => (i : Int)
 | none => -1
theorem lev_at {ls : List LV} {t : Int} {k : Nat} (hk : k < ls.length) (h : ∀ j, j < k -> (ls.getD j .none).terms.contains t = false) (h1 : (ls.getD k .none).terms.contains t = true) : levU ls t = k := by
 unfold levU
 have : ls.findIdx? (fun l => l.terms.contains t) = some k := by
  rw [List.findIdx?_eq_some_iff_getElem]
  refine ⟨hk, by simpa [List.getD, hk] using h1, fun j hj => ?_⟩
  have := h j hj
  simpa [List.getD, show j < ls.length by omega] using this
 rw [this]
theorem lev_none {ls : List LV} {t : Int} (h : ∀ j, j < ls.length -> (ls.getD j .none).terms.contains t = false) : levU ls t = -1 := by
 unfold levU
 have : ls.findIdx? (fun l => l.terms.contains t) = none := by
  rw [List.findIdx?_eq_none_iff]
  intro l hl
  obtain ⟨j, hj, rfl⟩ := List.mem_iff_getElem.1 hl
  have := h j hj
  simpa [List.getD, hj] using this
 rw [this]
theorem lev_cases (ls : List LV) (t : Int) : (levU ls t = -1 /\ ∀ j, j < ls.length -> (ls.getD j .none).terms.contains t = false) ∨ ∃ k, k < ls.length /\ levU ls t = (k : Int) /\ (∀ j, j < k -> (ls.getD j .none).terms.contains t = false) /\ (ls.getD k .none).terms.contains t = true := by
 cases h : ls.findIdx? fun l => l.terms.contains t with
 | none =>
  left
  refine ⟨by unfold levU; rw [h], fun j hj => ?_⟩
  rw [List.findIdx?_eq_none_iff] at h
  have := h (ls.getD j .none) (mem_getD hj)
  simpa using this
 | some k =>
  right
  have h0 := h
  rw [List.findIdx?_eq_some_iff_getElem] at h
  obtain ⟨hk, h1, h2⟩ := h
  refine ⟨k, hk, by unfold levU; rw [h0], fun j hj => ?_, by simpa [List.getD, hk] using h1⟩
  have := h2 j hj
  simpa [List.getD, show j < ls.length by omega] using this
theorem lev_ge (ls : List LV) (t : Int) : -1 <= levU ls t /\ levU ls t < ls.length := by
 rcases lev_cases ls t with ⟨h, _⟩ | ⟨k, hk, h, _⟩ <;> omega
def lastT (l : List (Int × Int)) : Int := match l.reverse.find? fun s => s.1 == 1 with
 | some s => s.2
 | none => -1
theorem last_snoc (l : List (Int × Int)) (s : Int × Int) : lastT (l ++ [s]) = if s.1 = 1 then s.2 else lastT l := by
 unfold lastT
 rw [List.reverse_append, List.reverse_cons, List.reverse_nil, List.nil_append, List.singleton_append, List.find?_cons]
 by_cases h : s.1 = 1
 ·simp [h]
 ·rw [if_neg h]
  have : (s.1 == 1) = false := by simpa using h
  rw [this]
def ownU (p : PV) : Int := if p.prec ≠ -1 then p.prec else lastT p.right
def plvU (g : GV) (i : Nat) : Int := levU g.ls (ownU (g.ps.getD i .none))
structure DV where
 look : Int
 kind : Int
 prod : Int
 drop : List Int
 sd : Bool
 lev : Int
def DV.zero : DV := ⟨0, 0, 0, [], false, 0⟩
def noneD (t : Int) : DV := ⟨t, 0, -1, [], false, -1⟩
def redD (p t l : Int) : DV := ⟨t, 2, p, [], true, l⟩
def shiD (p t l : Int) : DV := ⟨t, 1, -1, [p], false, l⟩
def errD (p t l : Int) : DV := ⟨t, 3, -1, [p], true, l⟩
def eqD (a p t l : Int) : DV := if a = 1 then redD p t l else if a = 2 then shiD p t l else errD p t l
def duelD (g : GV) (P T p t : Int) : DV :=
 if P = -1 ∨ T = -1 then noneD t
 else if T < P then redD p t P
 else if P < T then shiD p t T
 else eqD (g.ls.getD P.toNat .none).assoc p t P
def decU (g : GV) (p : Nat) (t : Int) : DV := duelD g (plvU g p) (levU g.ls t) p t
theorem dec_look (g : GV) (p : Nat) (t : Int) : (decU g p t).look = t := by
 unfold decU duelD eqD
 repeat' split
 all_goals rfl
def dropD (d : DV) (red : List Int) : DV := { d with drop := red.filter fun p => decide (p ≠ d.prod) }
def kindD (k : Int) (ds : List DV) : List DV := ds.filter fun d => decide (d.kind = k)
def pickD (look : Int) (red : List Int) (ds : List DV) : DV :=
 if kindD 0 ds ≠ [] ∨ 1 < (kindD 2 ds).length then noneD look
 else match kindD 2 ds with
  | d :: _ => dropD d red
  | [] => match kindD 3 ds with
   | d :: _ => dropD d red
   | [] => match kindD 1 ds with
    | d :: _ => dropD d red
    | [] => noneD look
def resU (g : GV) (look shift : Int) (red : List Int) : DV :=
 if shift = -1 ∨ (-1) ∈ red then noneD look else pickD look red (red.map fun p => decU g p.toNat look)
def oddU (g : GV) (p : Int) : Bool := decide (p ≠ -1 /\ ¬ (0 <= p /\ p < g.ps.length))
end Go.Proofs.YtjpknihkcndoiaaGreat
namespace Go.Proofs.YtjpknihkcndoiaaGreat
set_option linter.unusedVariables false
set_option maxRecDepth 100000
set_option maxHeartbeats 16000000
open Go.RowKit Go.Shelf
theorem contains_hit {l : List Int} {k : Nat} {x : Int} (hk : k < l.length) (h : x = l.getD k 0) : l.contains x = true := by
 rw [List.contains_iff_mem, h]; exact mem_getD hk
theorem contains_not {l : List Int} {x : Int} (h : ∀ j, j < l.length -> x ≠ l.getD j 0) : l.contains x = false := by
 rw [Bool.eq_false_iff]
 intro hc
 obtain ⟨j, hj, e⟩ := List.mem_iff_getElem.1 (List.contains_iff_mem.1 hc)
 exact h j hj (by simp [List.getD, hj, e])
theorem index_P (ao : Option Addr) (cap : Nat) (l : List Int) (x : Int) (w : World) (hl : l.length <= 140737488355328) (hr : InRow w ao l) :
  Calls Tryz.prog 81 #[.slice ao l.length cap, .int .i64 x] w fun e w' => ∃ v, e = .returned (.int .i64 v) /\ (l.contains x = decide (0 <= v)) /\ w' = w := by
 have HR : Hid (InRow w ao l) := hr
 clear hr
 go_enter Tryz.func81, Tryz.ntmps81
 go_wp2
 go_loopw [8] (fun z wr => ∃ k : Nat, k <= l.length /\ z = .int .i64 k /\ wr = w /\ Hid (∀ j, j < k -> x ≠ l.getD j 0)) (fun z _ => l.length - (intOf z).toNat)
 case atStart => exact ⟨0, Nat.zero_le _, rfl, rfl, fun j hj => by omega⟩
 case round =>
  obtain ⟨k, hk, rfl, rfl, HA⟩ := hrel
  by_cases hlt : k < l.length
  ·obtain ⟨rb, ro, rfl, hrb, hrc⟩ := HR.out (by intro e; subst e; simp at hlt)
   have r0 := hrc k hlt
   have klt : (k : Int) < (l.length : Int) := by omega
   clear hrc
   by_cases hin : x = l.getD k 0
   ·have HX : Hid (l.contains x = true) := contains_hit hlt hin
    generalize l.getD k 0 = n at *
    have t1 : (x == n) = true := by simpa using hin
    clear hin
    go_wp2
    go_ret
    exact ⟨_, rfl, by rw [HX.out]; simp, rfl⟩
   ·have HX : Hid (∀ j, j < k + 1 -> x ≠ l.getD j 0) := fun j hj => by
     rcases Nat.lt_succ_iff_lt_or_eq.1 hj with r | rfl
     ·exact HA.out j r
     ·exact hin
    generalize l.getD k 0 = n at *
    have t1 : (x == n) = false := by simpa using hin
    clear hin
    go_wp2
    go_roundw
    case rel => exact ⟨k + 1, by omega, by go_num, by first | rfl | trivial, HX.out⟩
    case measure => simp [intOf]; omega
  ·have HX : Hid (l.contains x = false) := contains_not fun j hj => HA.out j (by omega)
   clear HA
   go_wp2
   go_ret
   exact ⟨-1, rfl, by rw [HX.out]; rfl, rfl⟩
theorem contains_P (ao : Option Addr) (cap : Nat) (l : List Int) (x : Int) (w : World) (b : Bool) (hx : l.contains x = b) (hl : l.length <= 140737488355328) (hr : InRow w ao l) :
  Calls Tryz.prog 57 #[.slice ao l.length cap, .int .i64 x] w fun e w' => e = .returned (.bool b) /\ w' = w := by
 have HX : Hid (l.contains x = b) := hx
 have HC := index_P ao cap l x w hl hr
 clear hx hr
 go_enter Tryz.func57, Tryz.ntmps57
 go_wp2_with (go_at_call 81; refine HC.mono ?_; rintro e w1 ⟨v, rfl, hv', rfl⟩; have hv : Hid _ := hv'; clear hv' HC)
 go_ret
 exact ⟨by have h1 := hv.out; have h2 := HX.out; rw [h2] at h1; rw [h1]; rfl, rfl⟩
theorem has_c (q : LV) (t : Int) (tb : Nat) (w : World) (x : Bool) (hx : q.terms.contains t = x) (hl : q.terms.length <= 140737488355328) (hr : InRow w q.ta q.terms) (ht : w.heap[tb]? = some (.cells #[.int .i64 t] 3)) :
  Calls Tryz.prog 79 #[.agg #[.int .i64 q.assoc, .slice q.ta q.terms.length q.tc], .pointer (some ⟨tb, 0, none⟩)] w fun e w' => e = .returned (.bool x) /\ Below w.heap.size w w' := by
 obtain ⟨qa, ta, tc, ts⟩ := q
 simp only at hx hl hr
 have hb := below_alloc w (.cells #[.int .i64 qa, .slice ta ts.length tc] 73)
 have HC := contains_P ta tc ts t _ x hx hl (hr.later hb)
 have c0 : (w.alloc (.cells #[.int .i64 qa, .slice ta ts.length tc] 73)).cell? ⟨tb, 0, none⟩ = some (.int .i64 t) := by
  rw [hb.cell (p := ⟨tb, 0, none⟩) (lt_of_block ht), cellq_any ht]; rfl
 have HB : Hid _ := hb
 clear hx hr hb ht
 go_enter Tryz.func79, Tryz.ntmps79
 go_wp2_with (go_at_call 57; refine HC.mono ?_; rintro e w1 ⟨rfl, rfl⟩; clear HC)
 go_ret
 exact ⟨rfl, HB.out⟩
theorem idx_lev (t : Int) (tb : Nat) (ao : Option Addr) (N cap : Nat) (l : List LV) (w : World) (hN : N = l.length) (hl : l.length <= 140737488355328) (hl2 : ∀ q ∈ l, q.terms.length <= 140737488355328) (hr : LvRow w ao l) (ht : w.heap[tb]? = some (.cells #[.int .i64 t] 3)) :
  Calls Tryz.prog 78 #[.slice ao N cap, .func (.func 79) #[] #[.pointer (some ⟨tb, 0, none⟩)]] w fun e w' => e = .returned (.int .i64 (levU l t)) /\ Below w.heap.size w w' := by
 subst hN
 have HRB : Hid (LvRow w ao l /\ w.heap[tb]? = some (.cells #[.int .i64 t] 3) /\ ∀ q ∈ l, q.terms.length <= 140737488355328) := ⟨hr, ht, hl2⟩
 clear hr ht hl2
 go_enter Tryz.func78, Tryz.ntmps78
 go_wp2
 go_loopw [8] (fun z wr => ∃ k : Nat, k <= l.length /\ z = .int .i64 k /\ Below w.heap.size w wr /\ Hid (∀ j, j < k -> (l.getD j .none).terms.contains t = false)) (fun z _ => l.length - (intOf z).toNat)
 case atStart => exact ⟨0, Nat.zero_le _, rfl, Below.refl _ _, fun j hj => by omega⟩
 case round =>
  obtain ⟨k, hk, rfl, hb, HA⟩ := hrel
  by_cases hlt : k < l.length
  ·obtain ⟨rb, ro, rfl, hrb, hrc⟩ := (HRB.out.1.later hb).cells (by intro e; subst e; simp at hlt)
   obtain ⟨r0, r1⟩ := hrc k hlt
   have hm : l.getD k .none ∈ l := mem_getD hlt
   have hrow := (HRB.out.1.later hb).rows _ hm
   have hql := HRB.out.2.2 _ hm
   have HIT : Hid ((l.getD k .none).terms.contains t = true -> levU l t = k) := fun e => lev_at hlt HA.out e
   have HST : Hid ((l.getD k .none).terms.contains t = false -> ∀ j, j < k + 1 -> (l.getD j .none).terms.contains t = false) := fun e j hj => by
    rcases Nat.lt_succ_iff_lt_or_eq.1 hj with r | rfl
    ·exact HA.out j r
    ·exact e
   have CS : Hid (∀ x, (l.getD k .none).terms.contains t = x -> Calls Tryz.prog 79 #[.agg #[.int .i64 (l.getD k .none).assoc, .slice (l.getD k .none).ta (l.getD k .none).terms.length (l.getD k .none).tc], .pointer (some ⟨tb, 0, none⟩)] wr fun e w' => e = .returned (.bool x) /\ Below wr.heap.size wr w') := fun x hx => has_c _ t tb wr x hx hql hrow ((hb.block _ (lt_of_block HRB.out.2.1)).trans HRB.out.2.1)
   have klt : (k : Int) < (l.length : Int) := by omega
   clear hrc hm hrow hql HA
   generalize l.getD k .none = q at *
   obtain ⟨qa, ta, tc, ts⟩ := q
   simp only at r0 r1 HIT HST CS
   cases hin : ts.contains t with
   | true =>
    have HX : Hid _ := HIT.out hin
    have CS2 : Hid (Calls Tryz.prog 79 #[.agg #[.int .i64 qa, .slice ta ts.length tc], .pointer (some ⟨tb, 0, none⟩)] wr fun e w' => e = .returned (.bool true) /\ Below wr.heap.size wr w') := CS.out true hin
    clear HIT HST hin CS
    go_wp2_with (go_at_call 79; refine CS2.out.mono ?_; rintro e w1 ⟨rfl, hb1⟩)
    go_ret
    exact ⟨by rw [HX.out]; rfl, hb.trans (hb1.mono hb.size)⟩
   | false =>
    have HX : Hid _ := HST.out hin
    have CS2 : Hid (Calls Tryz.prog 79 #[.agg #[.int .i64 qa, .slice ta ts.length tc], .pointer (some ⟨tb, 0, none⟩)] wr fun e w' => e = .returned (.bool false) /\ Below wr.heap.size wr w') := CS.out false hin
    clear HIT HST hin CS
    go_wp2_with (go_at_call 79; refine CS2.out.mono ?_; rintro e w1 ⟨rfl, hb1⟩)
    go_roundw
    case rel => exact ⟨k + 1, by omega, by go_num, hb.trans (hb1.mono hb.size), HX.out⟩
    case measure => simp [intOf]; omega
  ·have HX : Hid (levU l t = -1) := lev_none fun j hj => HA.out j (by omega)
   clear HA
   go_wp2
   go_ret
   exact ⟨by rw [HX.out]; rfl, hb⟩
theorem levelOf_P (g : GV) (t : Int) (w : World) (h : GAt 140737488355328 w g) :
  Calls Tryz.prog 55 #[g.val, .int .i64 t] w fun e w' => e = .returned (.int .i64 (levU g.ls t)) /\ Below w.heap.size w w' := by
 have b1 := below_alloc w (gBox g)
 have b2 : Below w.heap.size w ((w.alloc (gBox g)).alloc (.cells #[.int .i64 t] 3)) := b1.trans ((below_alloc _ _).mono b1.size)
 have t1 : ((w.alloc (gBox g)).alloc (.cells #[.int .i64 t] 3)).heap[w.heap.size + 1]? = some (.cells #[.int .i64 t] 3) := by
  have := heap_alloc_new (w.alloc (gBox g)) (.cells #[.int .i64 t] 3)
  rwa [alZ] at this
 have HC : Hid (Calls Tryz.prog 78 #[.slice g.la g.ls.length g.lc, .func (.func 79) #[] #[.pointer (some ⟨w.heap.size + 1, 0, none⟩)]] ((w.alloc (gBox g)).alloc (.cells #[.int .i64 t] 3)) fun e w' => e = .returned (.int .i64 (levU g.ls t)) /\ Below ((w.alloc (gBox g)).alloc (.cells #[.int .i64 t] 3)).heap.size ((w.alloc (gBox g)).alloc (.cells #[.int .i64 t] 3)) w') := idx_lev t (w.heap.size + 1) g.la g.ls.length g.lc g.ls _ rfl h.ll h.vl (h.l.later b2) t1
 have HB : Hid (Below w.heap.size w ((w.alloc (gBox g)).alloc (.cells #[.int .i64 t] 3))) := b2
 clear h b1 b2 t1
 go_enter Tryz.func55, Tryz.ntmps55
 go_wp2_with (go_at_call 78; refine HC.out.mono ?_; rintro e w1 ⟨rfl, b3'⟩; have b3 : Hid _ := b3'; clear HC b3')
 go_ret
 exact ⟨rfl, HB.out.trans (b3.out.mono HB.out.size)⟩
end Go.Proofs.YtjpknihkcndoiaaGreat
namespace Go.Proofs.YtjpknihkcndoiaaGreat
set_option linter.unusedVariables false
set_option maxRecDepth 100000
set_option maxHeartbeats 16000000
open Go.RowKit Go.Shelf
theorem back_runP (F : Fence) (n : Nat) (h7 : F.fn 105) (hro : F.round = none) (hn : 1 <= n) (l Bs n₀ : Nat) (ao : Option Addr) (cap m : Nat) (ls : List (Int × Int)) (hl : ls.length <= 140737488355328) (zs : List (BkA m)) (hzs : zs.map Subtype.val = bkL ls) (J Jx : List (BkA m) -> World -> Prop)
  (hY : ∀ pre x W, J pre W -> pre.length < ls.length -> YieldAt F (n - 1) Tryz.prog l #[.int .i64 x.1.1, .agg #[.int .i64 x.1.2.1, .int .i64 x.1.2.2]] W fun e W' =>
   (e = .returned (.bool true) /\ J (pre ++ [x]) W' /\ KpB n₀ Bs W W') ∨ (e = .returned (.bool false) /\ Jx (pre ++ [x]) W'))
  (W : World) (hBs : W.heap[Bs]? = some (.cells #[.slice ao ls.length cap] 67 (0, 0))) (hr : ∀ W', Below n₀ W W' -> SymRow W' ao ls) (h0 : J [] W) :
  CallsIn F n Tryz.prog 105 #[.func (.yield l) #[] #[], .pointer (some ⟨Bs, 0, none⟩)] W fun e W' => (∃ v, e = .returned v) /\
   ((∃ ys, ys = zs /\ J ys W') ∨ (∃ pre, (∃ k, k < ls.length /\ pre = zs.take (k + 1)) /\ Jx pre W')) := by
 have hzl : zs.length = ls.length := by simpa [bkL] using congrArg List.length hzs
 have hBc : W.cell? ⟨Bs, 0, none⟩ = some (.slice ao ls.length cap) := (cellq_any hBs).trans rfl
 refine callsIn_of_wp Tryz.func105 rfl h7 ?_ hro
 simp only [Tryz.ntmps105, List.size_toArray, List.length_cons, List.length_nil, Nat.reduceAdd, Nat.reduceSub, Array.replicate_succ, Array.replicate_zero, List.push_toArray, List.append_toArray, List.nil_append, List.cons_append]
 gi_wp2
 gi_loopw [3] (fun i wr => ∃ k : Nat, k <= ls.length /\ i = .int .i64 ((ls.length : Int) - 1 - k) /\ J (zs.take k) wr /\ KpB n₀ Bs W wr)
  (fun i _ => (intOf i + 1).toNat)
 case atStart => exact ⟨0, Nat.zero_le _, by simp, h0, Below.refl _ _, rfl⟩
 case round =>
  obtain ⟨k, hk, rfl, hJs, hnx⟩ := hrel
  have hBr : wr.heap[Bs]? = some (.cells #[.slice ao ls.length cap] 67 (0, 0)) := hnx.2.trans hBs
  have hBc2 : wr.cell? ⟨Bs, 0, none⟩ = some (.slice ao ls.length cap) := (cellq_any hBr).trans rfl
  by_cases hlt : k < ls.length
  ·obtain ⟨x, hx⟩ : ∃ x, zs[k]'(by omega) = x := ⟨_, rfl⟩
   have hxv : x.1 = (((ls.length - 1 - k : Nat) : Int), ls.getD (ls.length - 1 - k) (0, 0)) := by
    have e1 : (zs.map Subtype.val)[k]? = (bkL ls)[k]? := by rw [hzs]
    rw [List.getElem?_map, List.getElem?_eq_getElem (by omega), hx] at e1
    simpa [bkL, hlt] using e1
   obtain ⟨fn, tmps, assign, body, hy, hR⟩ := hY _ x wr hJs (by rw [List.length_take]; omega)
   obtain ⟨b, off, rfl, _, hc⟩ := hr wr hnx.1 (by intro e; rw [e] at hlt; simp at hlt)
   obtain ⟨c0, c1⟩ := hc (ls.length - 1 - k) (by omega)
   have HS : Hid (zs.take (k + 1) = zs.take k ++ [x]) := by show _ = _; rw [List.take_succ_eq_append_getElem (by omega), hx]
   rw [hxv] at hy
   simp only at hy
   have hi : ((ls.length : Int) - 1 - k) = ((ls.length - 1 - k : Nat) : Int) := by omega
   have hik : ls.length - 1 - k < ls.length := by omega
   rw [hi]
   generalize hI : ls.length - 1 - k = i at *
   generalize ls.getD i (0, 0) = s at *
   obtain ⟨s1, s2⟩ := s
   simp only at c0 c1 hy
   clear hc hBs hBc hzs
   gi_wp2
   refine hR.mono ?_
   rintro e W3 (⟨rfl, hJ3, hk3⟩ | ⟨rfl, hJx3⟩)
   ·gi_wp2
    go_roundw
    case rel => exact ⟨k + 1, by omega, by go_num, by rw [HS.out]; exact hJ3, hnx.1.trans hk3.1, hk3.2.trans hnx.2⟩
    case measure => simp [intOf]
   ·gi_wp2
    refine bodyPost_ret (results_none rfl _ _ _) rfl ?_
    exact ⟨⟨_, rfl⟩, .inr ⟨_, ⟨k, hlt, HS.out.symm⟩, hJx3⟩⟩
  ·obtain rfl : k = ls.length := by omega
   have hneg : ((ls.length : Int) - 1 - (ls.length : Nat)) = -1 := by omega
   rw [hneg]
   gi_wp2
   go_end0
   exact ⟨⟨_, rfl⟩, .inl ⟨_, by rw [<- hzl, List.take_length], hJs⟩⟩
theorem back_seqP (F : Fence) (n : Nat) (h7 : F.fn 105) (hro : F.round = none) (hn : 1 <= n) (Bs n₀ : Nat) (ao : Option Addr) (cap m : Nat) (ls : List (Int × Int)) (hl : ls.length <= 140737488355328) (zs : List (BkA m)) (hzs : zs.map Subtype.val = bkL ls) (w : World) (hB : Bs < w.heap.size) (hBs : w.heap[Bs]? = some (.cells #[.slice ao ls.length cap] 67 (0, 0))) (w0 : World) (hw0 : w0.heap.size = n₀) (hw : Below n₀ w0 w) (hr : SymRow w0 ao ls) :
  SeqStopsK F n Tryz.prog 105 #[.pointer (some ⟨Bs, 0, none⟩)] (bkE m) (KpB n₀ Bs) (fun ys => ys = zs) (fun pre => ∃ k, k < ls.length /\ pre = zs.take (k + 1)) ls.length w := fun l J Jx W hW _ _ hY h0 =>
 back_runP F n h7 hro hn l Bs n₀ ao cap m ls hl zs hzs J Jx hY W ((hW.block _ hB).trans hBs) (fun _ hb => hr.later (by omega) ((hw.trans (hW.mono (by rw [<- hw0]; exact hw.size))).trans hb)) h0
theorem last_hit {m : Nat} {ls : List (Int × Int)} {zs pre : List (BkA m)} (hzs : zs.map Subtype.val = bkL ls) {k : Nat} {x : BkA m} (e : pre ++ [x] = zs.take (k + 1)) (h : ∀ y ∈ pre, y.1.2.1 ≠ 1) (hx : x.1.2.1 = 1) : lastT ls = x.1.2.2 := by
 have e1 : ls.reverse = (pre ++ [x]).map (fun y => y.1.2) ++ (zs.drop (k + 1)).map (fun y => y.1.2) := by
  rw [<- List.map_append, e, List.take_append_drop, <- bkL_rev, <- hzs, List.map_map]; rfl
 unfold lastT
 rw [e1, List.map_append, List.find?_append, List.find?_append]
 have h1 : (pre.map fun y => y.1.2).find? (fun s => s.1 == 1) = none := by
  rw [List.find?_eq_none]
  intro s hs
  obtain ⟨y, hy, rfl⟩ := List.mem_map.1 hs
  simpa using h y hy
 rw [h1]
 simp [hx]
theorem last_miss {m : Nat} {ls : List (Int × Int)} {zs : List (BkA m)} (hzs : zs.map Subtype.val = bkL ls) (h : ∀ y ∈ zs, y.1.2.1 ≠ 1) : lastT ls = -1 := by
 have e1 : ls.reverse = zs.map (fun y => y.1.2) := by rw [<- bkL_rev, <- hzs, List.map_map]; rfl
 unfold lastT
 rw [e1]
 have h1 : (zs.map fun y => y.1.2).find? (fun s => s.1 == 1) = none := by
  rw [List.find?_eq_none]
  intro s hs
  obtain ⟨y, hy, rfl⟩ := List.mem_map.1 hs
  simpa using h y hy
 rw [h1]
def lastV {m : Nat} (pre : List (BkA m)) : Int := match pre.getLast? with
 | some x => x.1.2.2
 | none => 0
theorem terminalOf_P (p : PV) (m : Nat) (w : World) (hr : SymRow w p.ra p.right) (hl : p.right.length <= 140737488355328) (hs : ∀ s ∈ p.right, SymIn m s) :
  Calls Tryz.prog 56 #[.agg #[.int .i64 p.left, .slice p.ra p.right.length p.rc, .int .i64 p.prec]] w fun e w' => e = .returned (.int .i64 (ownU p)) /\ Below w.heap.size w w' := by
 obtain ⟨pl, pa, pc, pr, pp⟩ := p
 simp only at hr hl hs
 obtain ⟨t0, t1, t2, t3⟩ := three_box w (.cells #[.int .i64 pl, .slice pa pr.length pc, .int .i64 pp] 69) (.cells #[.int .i64 0] 3) (.cells #[.slice pa pr.length pc] 67)
 by_cases hp : pp = -1
 case neg =>
  have E : Hid (ownU ⟨pl, pa, pc, pr, pp⟩ = pp) := by show _ = _; unfold ownU; rw [if_pos hp]
  have tp : (pp != -1) = true := by simpa using hp
  clear t0 t1 t2 t3 hr hs
  refine (callsIn_wide (n := 6)).1 ?_
  refine callsIn_of_wp_marks Tryz.func56 rfl trivial ?_ rfl
  simp only [Tryz.ntmps56, List.size_toArray, List.length_cons, List.length_nil, Nat.reduceAdd, Nat.reduceSub, Array.replicate_succ, Array.replicate_zero, List.push_toArray, List.append_toArray, List.nil_append, List.cons_append]
  gi_wp2
  exact ⟨.int .i64 pp, by simp [results, Tryz.results56, go_sem], by rw [E.out], (below_alloc w _).trans ((below_alloc _ _).mono (below_alloc w _).size)⟩
 subst hp
 obtain ⟨zs, hzs⟩ := sub_list (fun x : Int × (Int × Int) => SymIn m x.2) (bkL pr) (fun x hx => by
  have : x.2 ∈ (bkL pr).map (·.2) := List.mem_map_of_mem hx
  rw [bkL_rev] at this
  exact hs _ (List.mem_reverse.1 this))
 refine (callsIn_wide (n := 6)).1 ?_
 refine callsIn_of_wp_marks Tryz.func56 rfl trivial ?_ rfl
 simp only [Tryz.ntmps56, List.size_toArray, List.length_cons, List.length_nil, Nat.reduceAdd, Nat.reduceSub, Array.replicate_succ, Array.replicate_zero, List.push_toArray, List.append_toArray, List.nil_append, List.cons_append]
 have tp : ((-1 : Int) != -1) = false := by decide
 gi_wp2_with (refine ⟨trivial, ?_⟩; gi_at_call 80; refine (callsIn_wide.2 (backward_S pa pr.length pc _)).mono ?_; rintro e w' ⟨rfl, rfl⟩)
 have hsz : (((w.alloc (.cells #[.int .i64 pl, .slice pa pr.length pc, .int .i64 (-1)] 69)).alloc (.cells #[.int .i64 0] 3)).alloc (.cells #[.slice pa pr.length pc] 67)).heap.size = w.heap.size + 1 + 1 + 1 := by rw [alZ, alZ, alZ]
 obtain ⟨W0, hW0⟩ : ∃ W0, (((w.alloc (.cells #[.int .i64 pl, .slice pa pr.length pc, .int .i64 (-1)] 69)).alloc (.cells #[.int .i64 0] 3)).alloc (.cells #[.slice pa pr.length pc] 67)) = W0 := ⟨_, rfl⟩
 rw [hW0] at t0 t1 t2 t3 hsz ⊢
 clear hW0
 refine wpIn_rangeFunc_ownH rfl (by omega) (gf := 105) (lb := #[.pointer (some ⟨w.heap.size + 1 + 1, 0, none⟩)]) rfl trivial (enters_of Tryz.func105 (by kernel_rfl) rfl)
  (back_seqP Fence.wide _ trivial rfl (by omega) (w.heap.size + 1 + 1) w.heap.size pa pc m pr hl zs hzs W0 (by omega) t3 w rfl t0 hr) KpB.t (KpB.b (by omega) (by omega)) (Below.refl _ _) (fun _ => rfl)
  (fun pre W => ((CellsAt W w.heap.size #[.int .i64 pl, .slice pa pr.length pc, .int .i64 (-1)] 69 /\ CellsAt W (w.heap.size + 1) #[.int .i64 0] 3) /\ (CellsAt W (w.heap.size + 1 + 1) #[.slice pa pr.length pc] 67 /\ Below w.heap.size w W)) /\ ∀ y ∈ pre, y.1.2.1 ≠ 1)
  (fun c pre W => (CellsAt W (w.heap.size + 1) #[.int .i64 (lastV pre)] 3 /\ Below w.heap.size w W) /\ (c = .ret /\ ∃ pre0 x, pre = pre0 ++ [x] /\ (∀ y ∈ pre0, y.1.2.1 ≠ 1) /\ x.1.2.1 = 1))
  (OwnFrom.and (OwnFrom.and (OwnFrom.and (Own.from (cellsAt_own _ _ _) _) (Own.from (cellsAt_own _ _ _) _)) (OwnFrom.and (Own.from (cellsAt_own _ _ _) _) (ownFrom_below (Nat.le_refl _) (by omega)))) (ownFrom_pure _ _))
  (fun c => OwnFrom.and (OwnFrom.and (Own.from (cellsAt_own _ _ (fun pre => #[.int .i64 (lastV pre)])) _) (ownFrom_below (Nat.le_refl _) (by omega))) (ownFrom_pure _ _))
  ⟨⟨⟨t1, t2⟩, ⟨t3, t0⟩⟩, fun y hy => absurd hy (List.not_mem_nil)⟩
  (fun x a' W => ∃ Bx, w.heap.size + 1 + 1 < Bx /\ CellsAt W Bx #[.int .i64 x.1.2.1, .int .i64 x.1.2.2] 109 /\ a' = { tmps := #[.agg #[.int .i64 pl, .slice pa pr.length pc, .int .i64 (-1)], .pointer (some ⟨w.heap.size, 0, none⟩), .pointer (some ⟨w.heap.size + 1, 0, none⟩), undef, .pointer (some ⟨Bx, 0, none⟩), .pointer (some ⟨w.heap.size, 2, none⟩), .int .i64 (-1), .bool false, undef, undef, .pointer (some ⟨w.heap.size, 1, none⟩), .slice pa pr.length pc, .func (.func 105) #[] #[.pointer (some ⟨w.heap.size + 1 + 1, 0, none⟩)], .int .i64 x.1.1, .agg #[.int .i64 x.1.2.1, .int .i64 x.1.2.2], undef, undef, undef, undef, undef], defers := [] })
  (fun x a' _ X Y row hs hg hr => by obtain ⟨Bx, h1, h2, h3⟩ := hs; exact ⟨Bx, h1, cellsAt_own Bx 109 (fun (_ : Unit) => #[.int .i64 x.1.2.1, .int .i64 x.1.2.2]) () X Y row h2 hg (fun r e => (hr r e).2), h3⟩)
  ?assign ?body ?done ?stop
 case assign =>
  rintro l' pre x W K ⟨⟨⟨c1, c2⟩, c4, hB1⟩, hno⟩ hK
  have hsa := @Oper.semAt_some
  gi_wp2
  exact hK _ _ ((KeepsOthers.alloc _ _).from _) ⟨(Below.refl _ W).alloc hB1.size _, (below_alloc _ _).block _ c4.lt⟩ ⟨⟨⟨c1.alloc _, c2.alloc _⟩, c4.alloc _, hB1.alloc hB1.size _⟩, hno⟩ ⟨W.heap.size, c4.lt, heap_alloc_new _ _, rfl⟩
 case body =>
  rintro l' pre x a' W hl' ⟨r, hr'⟩ ⟨⟨⟨c1, c2⟩, c4, hB1⟩, hno⟩ ⟨Bx, hBx, bX, rfl⟩ hlt
  have hsa := @Oper.semAt_some
  have y0 : W.cell? ⟨w.heap.size + 1, 0, none⟩ = some (.int .i64 0) := (cellq_any c2).trans rfl
  have z0 : W.cell? ⟨Bx, 0, none⟩ = some (.int .i64 x.1.2.1) := (cellq_any bX).trans rfl
  have z1 : W.cell? ⟨Bx, 1, none⟩ = some (.int .i64 x.1.2.2) := (cellq_any bX).trans rfl
  have g0 := frostS c2 0
  have hz2 := c2.lt
  by_cases hx : x.1.2.1 = 1
  ·rw [hx] at z0 ⊢
   gi_wp2
   refine ⟨(KeepsOthers.setCell _ _ _).from _, ⟨?_, hB1.setCell (p := ⟨w.heap.size + 1, 0, none⟩) (by show w.heap.size <= w.heap.size + 1; omega) _⟩, rfl, pre, x, rfl, hno, hx⟩
   have : lastV (pre ++ [x]) = x.1.2.2 := by simp [lastV]
   rw [this]
   exact (heap_set c2 0 _).trans rfl
  ·have tx : (x.1.2.1 == 1) = false := by simpa using hx
   gi_wp2
   exact ⟨(KeepsOthers.refl _).from _, ⟨Below.refl _ _, rfl⟩, ⟨⟨c1, c2⟩, c4, hB1⟩, fun y hy => by
    rcases List.mem_append.1 hy with h | h
    ·exact hno y h
    ·obtain rfl : y = x := by simpa using h
     exact hx⟩
 case done =>
  rintro D ys W hD rfl ⟨⟨⟨c1, c2⟩, c4, hB1⟩, hno⟩ hK
  have hE := last_miss hzs hno
  have y0 : W.cell? ⟨w.heap.size + 1, 0, none⟩ = some (.int .i64 0) := (cellq_any c2).trans rfl
  have g0 := frostS c2 0
  have hz2 := c2.lt
  gi_wp2
  have hK2 : (W.setCell ⟨w.heap.size + 1, 0, none⟩ (.int .i64 (-1))).heap[D]? = some (.deferred (some [])) := by
   rw [Below.heap_setCell _ _ _ _ (show D ≠ w.heap.size + 1 by omega)]
   exact hK
  refine ⟨by simp, .inl ⟨_, _, rfl, run_takeDeferred hK2, ?_⟩⟩
  have hc : CellsAt (W.setCell ⟨w.heap.size + 1, 0, none⟩ (.int .i64 (-1))) (w.heap.size + 1) #[.int .i64 (-1)] 3 := (heap_set c2 0 _).trans rfl
  have hBW : Below w.heap.size w (W.setCell ⟨w.heap.size + 1, 0, none⟩ (.int .i64 (-1))) := hB1.setCell (p := ⟨w.heap.size + 1, 0, none⟩) (by show w.heap.size <= w.heap.size + 1; omega) _
  have hBZ := hBW.trans (belowK_b (w := w) (Nat.le_refl _) _ D _ (.deferred none) (by omega) hK2 rfl rfl)
  have hcZ : CellsAt ((W.setCell ⟨w.heap.size + 1, 0, none⟩ (.int .i64 (-1))).putObj D (.deferred none)) (w.heap.size + 1) #[.int .i64 (-1)] 3 := (World.putObj_heap_other (by omega)).trans hc
  generalize (W.setCell ⟨w.heap.size + 1, 0, none⟩ (.int .i64 (-1))).putObj D (.deferred none) = Z at *
  have r0 : Z.cell? ⟨w.heap.size + 1, 0, none⟩ = some (.int .i64 (-1)) := (cellq_any hcZ).trans rfl
  exact ⟨.int .i64 (-1), by simp [results, Tryz.results56, go_sem, r0], by rw [show ownU ⟨pl, pa, pc, pr, -1⟩ = lastT pr by simp [ownU], hE], hBZ⟩
 case stop =>
  rintro D c pre W hD ⟨k, hk, e⟩ ⟨⟨c2, hB1⟩, rfl, pre0, x, rfl, hno, hx⟩ hK
  have hE := last_hit hzs e hno hx
  gi_wp2
  refine ⟨by simp, .inl ⟨_, _, rfl, run_takeDeferred hK, ?_⟩⟩
  rw [show lastV (pre0 ++ [x]) = x.1.2.2 by simp [lastV]] at c2
  have hBZ := hB1.trans (belowK_b (w := w) (Nat.le_refl _) _ D _ (.deferred none) (by omega) hK rfl rfl)
  have hcZ : CellsAt (W.putObj D (.deferred none)) (w.heap.size + 1) #[.int .i64 x.1.2.2] 3 := (World.putObj_heap_other (by omega)).trans c2
  generalize W.putObj D (.deferred none) = Z at *
  have r0 : Z.cell? ⟨w.heap.size + 1, 0, none⟩ = some (.int .i64 x.1.2.2) := (cellq_any hcZ).trans rfl
  exact ⟨.int .i64 x.1.2.2, by simp [results, Tryz.results56, go_sem, r0], by rw [show ownU ⟨pl, pa, pc, pr, -1⟩ = lastT pr by simp [ownU], hE], hBZ⟩
end Go.Proofs.YtjpknihkcndoiaaGreat
namespace Go.Proofs.YtjpknihkcndoiaaGreat
set_option linter.unusedVariables false
set_option maxRecDepth 100000
set_option maxHeartbeats 16000000
open Go.RowKit Go.Maps
abbrev dval (d : DV) (ao : Option Addr) (c : Nat) : Value := .agg #[.int .i64 d.look, .int .i64 d.kind, .int .i64 d.prod, .slice ao d.drop.length c, .bool d.sd, .int .i64 d.lev]
def D1 (n : Nat) (w : World) (d : DV) (ao : Option Addr) (c : Nat) : Prop :=
 (d.drop = [] /\ ao = none /\ c = 0) ∨ ∃ b p, n <= b /\ d.drop = [p] /\ ao = some ⟨b, 0, none⟩ /\ c = 1 /\ w.heap[b]? = some (.cells #[.int .i64 p] 3 (0, 0))
theorem D1.later {n : Nat} {w w' : World} {d : DV} {ao : Option Addr} {c : Nat} (h : D1 n w d ao c) (hb : Below w.heap.size w w') : D1 n w' d ao c := by
 rcases h with h | ⟨b, p, h1, h2, h3, h4, h5⟩
 ·exact .inl h
 ·exact .inr ⟨b, p, h1, h2, h3, h4, (hb.block _ (lt_of_block h5)).trans h5⟩
theorem D1.mono {n m : Nat} {w : World} {d : DV} {ao : Option Addr} {c : Nat} (h : D1 n w d ao c) (hm : m <= n) : D1 m w d ao c := by
 rcases h with h | ⟨b, p, h1, h2, h3, h4, h5⟩
 ·exact .inl h
 ·exact .inr ⟨b, p, Nat.le_trans hm h1, h2, h3, h4, h5⟩
theorem D1.row {n : Nat} {w : World} {d : DV} {ao : Option Addr} {c : Nat} (h : D1 n w d ao c) : InRow w ao d.drop := by
 rcases h with ⟨h, _⟩ | ⟨b, p, h1, h2, h3, h4, h5⟩
 ·intro hn; exact absurd h hn
 ·intro _
  refine ⟨b, 0, h3, lt_of_block h5, fun i hi => ?_⟩
  rw [h2] at hi ⊢
  obtain rfl : i = 0 := by simpa using hi
  rw [cellq_any h5]; rfl
abbrev duV (p t l : Int) : Value := .agg #[.int .i64 p, .int .i64 t, .int .i64 l]
def DuO (w : World) (d : DV) (e : Ending) (w' : World) : Prop := ∃ ao c, e = .returned (dval d ao c) /\ D1 w.heap.size w' d ao c /\ Below w.heap.size w w'
theorem red_P (p t l : Int) (w : World) : Calls Tryz.prog 75 #[duV p t l] w (DuO w (redD p t l)) := by
 go_enter Tryz.func75, Tryz.ntmps75
 go_wp2
 refine bodyPost_ret (v := dval (redD p t l) none 0) (by simp [results, Tryz.results75, go_sem, redD]) rfl ?_
 exact ⟨none, 0, rfl, .inl ⟨rfl, rfl, rfl⟩, (below_alloc w _).trans ((below_alloc _ _).mono (below_alloc w _).size)⟩
theorem shi_P (p t l : Int) (w : World) : Calls Tryz.prog 76 #[duV p t l] w (DuO w (shiD p t l)) := by
 go_enter Tryz.func76, Tryz.ntmps76
 go_wp2
 refine bodyPost_ret (v := dval (shiD p t l) (some ⟨w.heap.size + 1 + 1, 0, none⟩) 1) (by simp [results, Tryz.results76, go_sem, shiD]) rfl ?_
 exact ⟨(some ⟨w.heap.size + 1 + 1, 0, none⟩), 1, rfl, .inr ⟨w.heap.size + 1 + 1, p, by omega, rfl, rfl, rfl, by have := heap_alloc_new ((w.alloc (.cells #[.int .i64 p, .int .i64 t, .int .i64 l] 156)).alloc (.cells #[.int .i64 t, .int .i64 1, .int .i64 (-1), .slice (some ⟨w.heap.size + 1 + 1, 0, none⟩) 1 1, .bool false, .int .i64 l] 58)) (.cells #[.int .i64 p] 3); rwa [alZ, alZ] at this⟩, ((below_alloc w _).trans ((below_alloc _ _).mono (below_alloc w _).size)).trans ((below_alloc _ _).mono (by simp; omega))⟩
theorem err_P (p t l : Int) (w : World) : Calls Tryz.prog 77 #[duV p t l] w (DuO w (errD p t l)) := by
 go_enter Tryz.func77, Tryz.ntmps77
 go_wp2
 refine bodyPost_ret (v := dval (errD p t l) (some ⟨w.heap.size + 1 + 1, 0, none⟩) 1) (by simp [results, Tryz.results77, go_sem, errD]) rfl ?_
 exact ⟨(some ⟨w.heap.size + 1 + 1, 0, none⟩), 1, rfl, .inr ⟨w.heap.size + 1 + 1, p, by omega, rfl, rfl, rfl, by have := heap_alloc_new ((w.alloc (.cells #[.int .i64 p, .int .i64 t, .int .i64 l] 156)).alloc (.cells #[.int .i64 t, .int .i64 3, .int .i64 (-1), .slice (some ⟨w.heap.size + 1 + 1, 0, none⟩) 1 1, .bool true, .int .i64 l] 58)) (.cells #[.int .i64 p] 3); rwa [alZ, alZ] at this⟩, ((below_alloc w _).trans ((below_alloc _ _).mono (below_alloc w _).size)).trans ((below_alloc _ _).mono (by simp; omega))⟩
theorem und_P (t : Int) (w : World) : Calls Tryz.prog 58 #[.int .i64 t] w (DuO w (noneD t)) := by
 go_enter Tryz.func58, Tryz.ntmps58
 go_wp2
 refine bodyPost_ret (v := dval (noneD t) none 0) (by simp [results, Tryz.results58, go_sem, noneD]) rfl ?_
 exact ⟨none, 0, rfl, .inl ⟨rfl, rfl, rfl⟩, below_alloc w _⟩
def heldE (v : Value) : Option (DataW Value × List MemPlace) := some (.held v, [])
theorem heldE_mk (v : Value) : heldE v = some (.held v, []) := rfl
theorem heldE_inv {v u : Value} {ps : List MemPlace} (h : heldE v = some (.held u, ps)) : v = u := by
 unfold heldE at h
 simp only [Option.some.injEq, Prod.mk.injEq, DataW.held.injEq] at h
 exact h.1
structure FMp (z : Value) (D : DataW Value) (f : Int -> Value) : Prop where
 tidy : Tidy D
 at_ : ∀ x, D.atKey (.int .i64 x) (.held z) = .held (f x)
theorem FMp.empty (z : Value) : FMp z (.map []) (fun _ => z) := ⟨tidy_empty, fun _ => rfl⟩
theorem FMp.put {z : Value} {D : DataW Value} {f : Int -> Value} (h : FMp z D f) (x : Int) (v : Value) : FMp z (D.put (.int .i64 x) (.held v)) (fun y => if y = x then v else f y) := by
 refine ⟨h.tidy.put (int_is x) _, fun y => ?_⟩
 by_cases e : y = x
 ·subst e; rw [atKey_put_same h.tidy.isMap (int_is y)]; simp
 ·rw [atKey_put_other (fun q => e (by simpa using q)), h.at_ y]; simp [e]
theorem wpList_insert_own {H : Type} {P : Program} (w : World) {ops : Array Oper} {rest : List Oper} {o : Oper} {a : Act} {Q : Exit -> Act -> World -> Prop}
  (hg : o.guard = none) (m x v : Operand) (t : TypeId) (hop : o.op = Op.insert t m x v)
  (k e : TypeId) (K : Keyed P k) (ht : P.underlying t = some (.map k e)) (R : Value -> Option (DataW H × List MemPlace)) (b n : Nat) (D : DataW H)
  (hm : a.eval m = .map (some b)) (hown : w.ownsMap P k R b n D) (hn : n < maxLen) (key val : Value) (kl : Lit) (hx : a.eval x = key) (hv : a.eval v = val) (hkey : keyOf P k key = some kl)
  (d : DataW H) (ps : List MemPlace) (hval : R val = some (d, ps))
  (hK : ∀ w', w'.ownsMap P k R b (n + 1) (D.put kl d) -> w.grownBy w' (some b) -> wpList P ops Q rest (a.put o.dst undef) w') :
  wpList P ops Q (o :: rest) a w := by
 refine wpList_plain hg fun K' hK' => ?_
 obtain ⟨w', hrun, r1, r2⟩ := hown.update K ht hn hkey hval
 unfold Oper.wp
 simp [execOp, hop, hm, hx, hv, hrun, Result.andThen]
 exact hK' _ _ (hK w' r1 r2)
theorem lawA : Keyed Tryz.prog 71 := int_keyed Tryz.underlying71
theorem keyOf_A {x : Int} (h0 : 0 <= x) (h1 : x <= 140737488355328) : keyOf Tryz.prog 71 (.int .i64 x) = some (.int .i64 x) := by
 refine keyOf_int_mk Tryz.underlying71 ?_
 have e1 : IntKind.i64.min = -9223372036854775808 := by decide
 have e2 : IntKind.i64.max = 9223372036854775807 := by decide
 simp [Lit.wf, e1, e2]
 omega
abbrev eqFn (x : Int) : Value := if x = 1 then .func (.func 75) #[] #[] else if x = 2 then .func (.func 76) #[] #[] else .func (.func 77) #[] #[]
structure EqM (w : World) (mb : Nat) : Prop where
 ex : ∃ D f, w.ownsMap Tryz.prog 71 heldE mb 3 D /\ FMp (.nilFunc) D f /\ ∀ x, 1 <= x -> x <= 3 -> f x = eqFn x
theorem gr_below {w w1 w2 : World} (h : Below w.heap.size w w1) (g : w1.grownBy w2 (some w.heap.size)) : Below w.heap.size w w2 :=
 ⟨g.os.trans h.os, g.tape.trans h.tape, g.output.trans h.output, Nat.le_trans h.size g.size, fun j hj => (g.block j (by have := h.size; omega) (by simp; omega)).trans (h.block j hj)⟩
theorem zeroFn (w : World) : (zeroValue 153).run Tryz.prog w = .ok (.nilFunc) w := by kernel_rfl
theorem equals_P (w : World) : Calls Tryz.prog 54 #[] w fun e w' => e = .returned (.map (some w.heap.size)) /\ EqM w' w.heap.size /\ Below w.heap.size w w' := by
 have hmm := @run_makeMap Tryz.prog
 have M0 : Hid ((w.alloc (.map #[] 0)).ownsMap Tryz.prog 71 heldE w.heap.size 0 (.map []) /\ Below w.heap.size w (w.alloc (.map #[] 0))) := ⟨World.ownsMap_made _ _ _ _, below_alloc _ _⟩
 go_enter Tryz.func54, Tryz.ntmps54
 go_wp2_with (first
  | (refine wpList_insert_own _ rfl _ _ _ 118 rfl 71 153 lawA Tryz.underlying118 heldE w.heap.size 0 _ rfl M0.out.1 (by decide) _ _ (.int .i64 1) rfl rfl (keyOf_A (by decide) (by decide)) (.held (.func (.func 75) #[] #[])) [] rfl ?_; intro w1 o1 g1; have M1 : Hid (w1.ownsMap Tryz.prog 71 heldE w.heap.size 1 _ /\ Below w.heap.size w w1) := ⟨o1, by exact gr_below M0.out.2 g1⟩; clear M0 o1 g1)
  | (refine wpList_insert_own _ rfl _ _ _ 118 rfl 71 153 lawA Tryz.underlying118 heldE w.heap.size 1 _ rfl M1.out.1 (by decide) _ _ (.int .i64 2) rfl rfl (keyOf_A (by decide) (by decide)) (.held (.func (.func 76) #[] #[])) [] rfl ?_; intro w2 o2 g2; have M2 : Hid (w2.ownsMap Tryz.prog 71 heldE w.heap.size 2 _ /\ Below w.heap.size w w2) := ⟨o2, by exact gr_below M1.out.2 g2⟩; clear M1 o2 g2)
  | (refine wpList_insert_own _ rfl _ _ _ 118 rfl 71 153 lawA Tryz.underlying118 heldE w.heap.size 2 _ rfl M2.out.1 (by decide) _ _ (.int .i64 3) rfl rfl (keyOf_A (by decide) (by decide)) (.held (.func (.func 77) #[] #[])) [] rfl ?_; intro w3 o3 g3; have M3 : Hid (w3.ownsMap Tryz.prog 71 heldE w.heap.size 3 _ /\ Below w.heap.size w w3) := ⟨o3, by exact gr_below M2.out.2 g3⟩; clear M2 o3 g3))
 go_ret
 exact ⟨rfl, ⟨_, _, M3.out.1, (((FMp.empty (.nilFunc)).put 1 _).put 2 _).put 3 _, fun x h1 h3 => by
  unfold eqFn
  rcases (show x = 1 ∨ x = 2 ∨ x = 3 by omega) with rfl | rfl | rfl <;> simp⟩, M3.out.2⟩
end Go.Proofs.YtjpknihkcndoiaaGreat
