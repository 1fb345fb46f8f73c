import Derived.Test.YtlkkllehaabebaaPPC1
import Derived.Test.YtlkkllehaabebaaPFChk1ToFOf
namespace Go.Proofs.Ytlkkllehaabebaa
set_option linter.unusedVariables false
set_option maxRecDepth 100000
set_option maxHeartbeats 16000000
open Go.RowKit Go.Shelf
theorem back_runP (F : Fence) (n : Nat) (h7 : F.fn 90) (hro : F.round = none) (hn : 1 <= n) (l Bs n₀ : Nat) (ao : Option Addr) (cap m : Nat) (ls : List (Int × Int)) (hl : ls.length <= 140737488355328) (zs : List (BkA m)) (hzs : zs.map Subtype.val = bkL ls) (J Jx : List (BkA m) -> World -> Prop)
  (hY : ∀ pre x W, J pre W -> pre.length < ls.length -> YieldAt F (n - 1) Try.prog l #[.int .i64 x.1.1, .agg #[.int .i64 x.1.2.1, .int .i64 x.1.2.2]] W fun e W' =>
   (e = .returned (.bool true) /\ J (pre ++ [x]) W' /\ KpB n₀ Bs W W') ∨ (e = .returned (.bool false) /\ Jx (pre ++ [x]) W'))
  (W : World) (hBs : W.heap[Bs]? = some (.cells #[.slice ao ls.length cap] 81 (0, 0))) (hr : ∀ W', Below n₀ W W' -> SymRow W' ao ls) (h0 : J [] W) :
  CallsIn F n Try.prog 90 #[.func (.yield l) #[] #[], .pointer (some ⟨Bs, 0, none⟩)] W fun e W' => (∃ v, e = .returned v) /\
   ((∃ ys, ys = zs /\ J ys W') ∨ (∃ pre, (∃ k, k < ls.length /\ pre = zs.take (k + 1)) /\ Jx pre W')) := by
 have hzl : zs.length = ls.length := by simpa [bkL] using congrArg List.length hzs
 have hBc : W.cell? ⟨Bs, 0, none⟩ = some (.slice ao ls.length cap) := (cellq_any hBs).trans rfl
 refine callsIn_of_wp Try.func90 rfl h7 ?_ hro
 simp only [Try.ntmps90, List.size_toArray, List.length_cons, List.length_nil, Nat.reduceAdd, Nat.reduceSub, Array.replicate_succ, Array.replicate_zero, List.push_toArray, List.append_toArray, List.nil_append, List.cons_append]
 gi_wp2
 gi_loopw [3] (fun i wr => ∃ k : Nat, k <= ls.length /\ i = .int .i64 ((ls.length : Int) - 1 - k) /\ J (zs.take k) wr /\ KpB n₀ Bs W wr)
  (fun i _ => (intOf i + 1).toNat)
 case atStart => exact ⟨0, Nat.zero_le _, by simp, h0, Below.refl _ _, rfl⟩
 case round =>
  obtain ⟨k, hk, rfl, hJs, hnx⟩ := hrel
  have hBr : wr.heap[Bs]? = some (.cells #[.slice ao ls.length cap] 81 (0, 0)) := hnx.2.trans hBs
  have hBc2 : wr.cell? ⟨Bs, 0, none⟩ = some (.slice ao ls.length cap) := (cellq_any hBr).trans rfl
  by_cases hlt : k < ls.length
  ·obtain ⟨x, hx⟩ : ∃ x, zs[k]'(by omega) = x := ⟨_, rfl⟩
   have hxv : x.1 = (((ls.length - 1 - k : Nat) : Int), ls.getD (ls.length - 1 - k) (0, 0)) := by
    have e1 : (zs.map Subtype.val)[k]? = (bkL ls)[k]? := by rw [hzs]
    rw [List.getElem?_map, List.getElem?_eq_getElem (by omega), hx] at e1
    simpa [bkL, hlt] using e1
   obtain ⟨fn, tmps, assign, body, hy, hR⟩ := hY _ x wr hJs (by rw [List.length_take]; omega)
   obtain ⟨b, off, rfl, _, hc⟩ := hr wr hnx.1 (by intro e; rw [e] at hlt; simp at hlt)
   obtain ⟨c0, c1⟩ := hc (ls.length - 1 - k) (by omega)
   have HS : Hid (zs.take (k + 1) = zs.take k ++ [x]) := by show _ = _; rw [List.take_succ_eq_append_getElem (by omega), hx]
   rw [hxv] at hy
   simp only at hy
   have hi : ((ls.length : Int) - 1 - k) = ((ls.length - 1 - k : Nat) : Int) := by omega
   have hik : ls.length - 1 - k < ls.length := by omega
   rw [hi]
   generalize hI : ls.length - 1 - k = i at *
   generalize ls.getD i (0, 0) = s at *
   obtain ⟨s1, s2⟩ := s
   simp only at c0 c1 hy
   clear hc hBs hBc hzs
   gi_wp2
   refine hR.mono ?_
   rintro e W3 (⟨rfl, hJ3, hk3⟩ | ⟨rfl, hJx3⟩)
   ·gi_wp2
    go_roundw
    case rel => exact ⟨k + 1, by omega, by go_num, by rw [HS.out]; exact hJ3, hnx.1.trans hk3.1, hk3.2.trans hnx.2⟩
    case measure => simp [intOf]
   ·gi_wp2
    refine bodyPost_ret (results_none rfl _ _ _) rfl ?_
    exact ⟨⟨_, rfl⟩, .inr ⟨_, ⟨k, hlt, HS.out.symm⟩, hJx3⟩⟩
  ·obtain rfl : k = ls.length := by omega
   have hneg : ((ls.length : Int) - 1 - (ls.length : Nat)) = -1 := by omega
   rw [hneg]
   gi_wp2
   go_end0
   exact ⟨⟨_, rfl⟩, .inl ⟨_, by rw [<- hzl, List.take_length], hJs⟩⟩
theorem back_seqP (F : Fence) (n : Nat) (h7 : F.fn 90) (hro : F.round = none) (hn : 1 <= n) (Bs n₀ : Nat) (ao : Option Addr) (cap m : Nat) (ls : List (Int × Int)) (hl : ls.length <= 140737488355328) (zs : List (BkA m)) (hzs : zs.map Subtype.val = bkL ls) (w : World) (hB : Bs < w.heap.size) (hBs : w.heap[Bs]? = some (.cells #[.slice ao ls.length cap] 81 (0, 0))) (w0 : World) (hw0 : w0.heap.size = n₀) (hw : Below n₀ w0 w) (hr : SymRow w0 ao ls) :
  SeqStopsK F n Try.prog 90 #[.pointer (some ⟨Bs, 0, none⟩)] (bkE m) (KpB n₀ Bs) (fun ys => ys = zs) (fun pre => ∃ k, k < ls.length /\ pre = zs.take (k + 1)) ls.length w := fun l J Jx W hW _ _ hY h0 =>
 back_runP F n h7 hro hn l Bs n₀ ao cap m ls hl zs hzs J Jx hY W ((hW.block _ hB).trans hBs) (fun _ hb => hr.later (by omega) ((hw.trans (hW.mono (by rw [<- hw0]; exact hw.size))).trans hb)) h0
theorem last_hit {m : Nat} {ls : List (Int × Int)} {zs pre : List (BkA m)} (hzs : zs.map Subtype.val = bkL ls) {k : Nat} {x : BkA m} (e : pre ++ [x] = zs.take (k + 1)) (h : ∀ y ∈ pre, y.1.2.1 ≠ 1) (hx : x.1.2.1 = 1) : lastT ls = x.1.2.2 := by
 have e1 : ls.reverse = (pre ++ [x]).map (fun y => y.1.2) ++ (zs.drop (k + 1)).map (fun y => y.1.2) := by
  rw [<- List.map_append, e, List.take_append_drop, <- bkL_rev, <- hzs, List.map_map]; rfl
 unfold lastT
 rw [e1, List.map_append, List.find?_append, List.find?_append]
 have h1 : (pre.map fun y => y.1.2).find? (fun s => s.1 == 1) = none := by
  rw [List.find?_eq_none]
  intro s hs
  obtain ⟨y, hy, rfl⟩ := List.mem_map.1 hs
  simpa using h y hy
 rw [h1]
 simp [hx]
theorem last_miss {m : Nat} {ls : List (Int × Int)} {zs : List (BkA m)} (hzs : zs.map Subtype.val = bkL ls) (h : ∀ y ∈ zs, y.1.2.1 ≠ 1) : lastT ls = -1 := by
 have e1 : ls.reverse = zs.map (fun y => y.1.2) := by rw [<- bkL_rev, <- hzs, List.map_map]; rfl
 unfold lastT
 rw [e1]
 have h1 : (zs.map fun y => y.1.2).find? (fun s => s.1 == 1) = none := by
  rw [List.find?_eq_none]
  intro s hs
  obtain ⟨y, hy, rfl⟩ := List.mem_map.1 hs
  simpa using h y hy
 rw [h1]
def lastV {m : Nat} (pre : List (BkA m)) : Int := match pre.getLast? with
 | some x => x.1.2.2
 | none => 0
theorem terminalOf_P (p : PV) (m : Nat) (w : World) (hr : SymRow w p.ra p.right) (hl : p.right.length <= 140737488355328) (hs : ∀ s ∈ p.right, SymIn m s) :
  Calls Try.prog 36 #[.agg #[.int .i64 p.left, .slice p.ra p.right.length p.rc, .int .i64 p.prec]] w fun e w' => e = .returned (.int .i64 (ownU p)) /\ Below w.heap.size w w' := by
 obtain ⟨pl, pa, pc, pr, pp⟩ := p
 simp only at hr hl hs
 obtain ⟨t0, t1, t2, t3⟩ := three_box w (.cells #[.int .i64 pl, .slice pa pr.length pc, .int .i64 pp] 83) (.cells #[.int .i64 0] 3) (.cells #[.slice pa pr.length pc] 81)
 by_cases hp : pp = -1
 case neg =>
  have E : Hid (ownU ⟨pl, pa, pc, pr, pp⟩ = pp) := by show _ = _; unfold ownU; rw [if_pos hp]
  have tp : (pp != -1) = true := by simpa using hp
  clear t0 t1 t2 t3 hr hs
  refine (callsIn_wide (n := 6)).1 ?_
  refine callsIn_of_wp_marks Try.func36 rfl trivial ?_ rfl
  simp only [Try.ntmps36, List.size_toArray, List.length_cons, List.length_nil, Nat.reduceAdd, Nat.reduceSub, Array.replicate_succ, Array.replicate_zero, List.push_toArray, List.append_toArray, List.nil_append, List.cons_append]
  gi_wp2
  exact ⟨.int .i64 pp, by simp [results, Try.results36, go_sem], by rw [E.out], (below_alloc w _).trans ((below_alloc _ _).mono (below_alloc w _).size)⟩
 subst hp
 obtain ⟨zs, hzs⟩ := sub_list (fun x : Int × (Int × Int) => SymIn m x.2) (bkL pr) (fun x hx => by
  have : x.2 ∈ (bkL pr).map (·.2) := List.mem_map_of_mem hx
  rw [bkL_rev] at this
  exact hs _ (List.mem_reverse.1 this))
 refine (callsIn_wide (n := 6)).1 ?_
 refine callsIn_of_wp_marks Try.func36 rfl trivial ?_ rfl
 simp only [Try.ntmps36, List.size_toArray, List.length_cons, List.length_nil, Nat.reduceAdd, Nat.reduceSub, Array.replicate_succ, Array.replicate_zero, List.push_toArray, List.append_toArray, List.nil_append, List.cons_append]
 have tp : ((-1 : Int) != -1) = false := by decide
 gi_wp2_with (refine ⟨trivial, ?_⟩; gi_at_call 70; refine (callsIn_wide.2 (backward_S pa pr.length pc _)).mono ?_; rintro e w' ⟨rfl, rfl⟩)
 have hsz : (((w.alloc (.cells #[.int .i64 pl, .slice pa pr.length pc, .int .i64 (-1)] 83)).alloc (.cells #[.int .i64 0] 3)).alloc (.cells #[.slice pa pr.length pc] 81)).heap.size = w.heap.size + 1 + 1 + 1 := by rw [alZ, alZ, alZ]
 obtain ⟨W0, hW0⟩ : ∃ W0, (((w.alloc (.cells #[.int .i64 pl, .slice pa pr.length pc, .int .i64 (-1)] 83)).alloc (.cells #[.int .i64 0] 3)).alloc (.cells #[.slice pa pr.length pc] 81)) = W0 := ⟨_, rfl⟩
 rw [hW0] at t0 t1 t2 t3 hsz ⊢
 clear hW0
 refine wpIn_rangeFunc_ownH rfl (by omega) (gf := 90) (lb := #[.pointer (some ⟨w.heap.size + 1 + 1, 0, none⟩)]) rfl trivial (enters_of Try.func90 (by kernel_rfl) rfl)
  (back_seqP Fence.wide _ trivial rfl (by omega) (w.heap.size + 1 + 1) w.heap.size pa pc m pr hl zs hzs W0 (by omega) t3 w rfl t0 hr) KpB.t (KpB.b (by omega) (by omega)) (Below.refl _ _) (fun _ => rfl)
  (fun pre W => ((CellsAt W w.heap.size #[.int .i64 pl, .slice pa pr.length pc, .int .i64 (-1)] 83 /\ CellsAt W (w.heap.size + 1) #[.int .i64 0] 3) /\ (CellsAt W (w.heap.size + 1 + 1) #[.slice pa pr.length pc] 81 /\ Below w.heap.size w W)) /\ ∀ y ∈ pre, y.1.2.1 ≠ 1)
  (fun c pre W => (CellsAt W (w.heap.size + 1) #[.int .i64 (lastV pre)] 3 /\ Below w.heap.size w W) /\ (c = .ret /\ ∃ pre0 x, pre = pre0 ++ [x] /\ (∀ y ∈ pre0, y.1.2.1 ≠ 1) /\ x.1.2.1 = 1))
  (OwnFrom.and (OwnFrom.and (OwnFrom.and (Own.from (cellsAt_own _ _ _) _) (Own.from (cellsAt_own _ _ _) _)) (OwnFrom.and (Own.from (cellsAt_own _ _ _) _) (ownFrom_below (Nat.le_refl _) (by omega)))) (ownFrom_pure _ _))
  (fun c => OwnFrom.and (OwnFrom.and (Own.from (cellsAt_own _ _ (fun pre => #[.int .i64 (lastV pre)])) _) (ownFrom_below (Nat.le_refl _) (by omega))) (ownFrom_pure _ _))
  ⟨⟨⟨t1, t2⟩, ⟨t3, t0⟩⟩, fun y hy => absurd hy (List.not_mem_nil)⟩
  (fun x a' W => ∃ Bx, w.heap.size + 1 + 1 < Bx /\ CellsAt W Bx #[.int .i64 x.1.2.1, .int .i64 x.1.2.2] 113 /\ a' = { tmps := #[.agg #[.int .i64 pl, .slice pa pr.length pc, .int .i64 (-1)], .pointer (some ⟨w.heap.size, 0, none⟩), .pointer (some ⟨w.heap.size + 1, 0, none⟩), undef, .pointer (some ⟨Bx, 0, none⟩), .pointer (some ⟨w.heap.size, 2, none⟩), .int .i64 (-1), .bool false, undef, undef, .pointer (some ⟨w.heap.size, 1, none⟩), .slice pa pr.length pc, .func (.func 90) #[] #[.pointer (some ⟨w.heap.size + 1 + 1, 0, none⟩)], .int .i64 x.1.1, .agg #[.int .i64 x.1.2.1, .int .i64 x.1.2.2], undef, undef, undef, undef, undef], defers := [] })
  (fun x a' _ X Y row hs hg hr => by obtain ⟨Bx, h1, h2, h3⟩ := hs; exact ⟨Bx, h1, cellsAt_own Bx 113 (fun (_ : Unit) => #[.int .i64 x.1.2.1, .int .i64 x.1.2.2]) () X Y row h2 hg (fun r e => (hr r e).2), h3⟩)
  ?assign ?body ?done ?stop
 case assign =>
  rintro l' pre x W K ⟨⟨⟨c1, c2⟩, c4, hB1⟩, hno⟩ hK
  have hsa := @Oper.semAt_some
  gi_wp2
  exact hK _ _ ((KeepsOthers.alloc _ _).from _) ⟨(Below.refl _ W).alloc hB1.size _, (below_alloc _ _).block _ c4.lt⟩ ⟨⟨⟨c1.alloc _, c2.alloc _⟩, c4.alloc _, hB1.alloc hB1.size _⟩, hno⟩ ⟨W.heap.size, c4.lt, heap_alloc_new _ _, rfl⟩
 case body =>
  rintro l' pre x a' W hl' ⟨r, hr'⟩ ⟨⟨⟨c1, c2⟩, c4, hB1⟩, hno⟩ ⟨Bx, hBx, bX, rfl⟩ hlt
  have hsa := @Oper.semAt_some
  have y0 : W.cell? ⟨w.heap.size + 1, 0, none⟩ = some (.int .i64 0) := (cellq_any c2).trans rfl
  have z0 : W.cell? ⟨Bx, 0, none⟩ = some (.int .i64 x.1.2.1) := (cellq_any bX).trans rfl
  have z1 : W.cell? ⟨Bx, 1, none⟩ = some (.int .i64 x.1.2.2) := (cellq_any bX).trans rfl
  have g0 := frostS c2 0
  have hz2 := c2.lt
  by_cases hx : x.1.2.1 = 1
  ·rw [hx] at z0 ⊢
   gi_wp2
   refine ⟨(KeepsOthers.setCell _ _ _).from _, ⟨?_, hB1.setCell (p := ⟨w.heap.size + 1, 0, none⟩) (by show w.heap.size <= w.heap.size + 1; omega) _⟩, rfl, pre, x, rfl, hno, hx⟩
   have : lastV (pre ++ [x]) = x.1.2.2 := by simp [lastV]
   rw [this]
   exact (heap_set c2 0 _).trans rfl
  ·have tx : (x.1.2.1 == 1) = false := by simpa using hx
   gi_wp2
   exact ⟨(KeepsOthers.refl _).from _, ⟨Below.refl _ _, rfl⟩, ⟨⟨c1, c2⟩, c4, hB1⟩, fun y hy => by
    rcases List.mem_append.1 hy with h | h
    ·exact hno y h
    ·obtain rfl : y = x := by simpa using h
     exact hx⟩
 case done =>
  rintro D ys W hD rfl ⟨⟨⟨c1, c2⟩, c4, hB1⟩, hno⟩ hK
  have hE := last_miss hzs hno
  have y0 : W.cell? ⟨w.heap.size + 1, 0, none⟩ = some (.int .i64 0) := (cellq_any c2).trans rfl
  have g0 := frostS c2 0
  have hz2 := c2.lt
  gi_wp2
  have hK2 : (W.setCell ⟨w.heap.size + 1, 0, none⟩ (.int .i64 (-1))).heap[D]? = some (.deferred (some [])) := by
   rw [Below.heap_setCell _ _ _ _ (show D ≠ w.heap.size + 1 by omega)]
   exact hK
  refine ⟨by simp, .inl ⟨_, _, rfl, run_takeDeferred hK2, ?_⟩⟩
  have hc : CellsAt (W.setCell ⟨w.heap.size + 1, 0, none⟩ (.int .i64 (-1))) (w.heap.size + 1) #[.int .i64 (-1)] 3 := (heap_set c2 0 _).trans rfl
  have hBW : Below w.heap.size w (W.setCell ⟨w.heap.size + 1, 0, none⟩ (.int .i64 (-1))) := hB1.setCell (p := ⟨w.heap.size + 1, 0, none⟩) (by show w.heap.size <= w.heap.size + 1; omega) _
  have hBZ := hBW.trans (belowK_b (w := w) (Nat.le_refl _) _ D _ (.deferred none) (by omega) hK2 rfl rfl)
  have hcZ : CellsAt ((W.setCell ⟨w.heap.size + 1, 0, none⟩ (.int .i64 (-1))).putObj D (.deferred none)) (w.heap.size + 1) #[.int .i64 (-1)] 3 := (World.putObj_heap_other (by omega)).trans hc
  generalize (W.setCell ⟨w.heap.size + 1, 0, none⟩ (.int .i64 (-1))).putObj D (.deferred none) = Z at *
  have r0 : Z.cell? ⟨w.heap.size + 1, 0, none⟩ = some (.int .i64 (-1)) := (cellq_any hcZ).trans rfl
  exact ⟨.int .i64 (-1), by simp [results, Try.results36, go_sem, r0], by rw [show ownU ⟨pl, pa, pc, pr, -1⟩ = lastT pr by simp [ownU], hE], hBZ⟩
 case stop =>
  rintro D c pre W hD ⟨k, hk, e⟩ ⟨⟨c2, hB1⟩, rfl, pre0, x, rfl, hno, hx⟩ hK
  have hE := last_hit hzs e hno hx
  gi_wp2
  refine ⟨by simp, .inl ⟨_, _, rfl, run_takeDeferred hK, ?_⟩⟩
  rw [show lastV (pre0 ++ [x]) = x.1.2.2 by simp [lastV]] at c2
  have hBZ := hB1.trans (belowK_b (w := w) (Nat.le_refl _) _ D _ (.deferred none) (by omega) hK rfl rfl)
  have hcZ : CellsAt (W.putObj D (.deferred none)) (w.heap.size + 1) #[.int .i64 x.1.2.2] 3 := (World.putObj_heap_other (by omega)).trans c2
  generalize W.putObj D (.deferred none) = Z at *
  have r0 : Z.cell? ⟨w.heap.size + 1, 0, none⟩ = some (.int .i64 x.1.2.2) := (cellq_any hcZ).trans rfl
  exact ⟨.int .i64 x.1.2.2, by simp [results, Try.results36, go_sem, r0], by rw [show ownU ⟨pl, pa, pc, pr, -1⟩ = lastT pr by simp [ownU], hE], hBZ⟩
end Go.Proofs.Ytlkkllehaabebaa
