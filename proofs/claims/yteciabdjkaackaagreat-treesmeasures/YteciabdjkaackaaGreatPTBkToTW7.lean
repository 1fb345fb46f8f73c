import Derived.Test.YteciabdjkaackaaGreatPTC3ToTC4
import Derived.RangeFuncNested
import Derived.RangeFuncLeaves
import Derived.RangeFuncCalls
import Derived.Shelf.Abstract
import Derived.WalkKit
import Derived.OwnWalkIn
import Derived.TacticsInMore
import Derived.LoopNIn
import Derived.LoopIn
import Derived.Test.YteciabdjkaackaaGreatPTW5ToTT2
namespace Go.Proofs.YteciabdjkaackaaGreat
set_option linter.unusedVariables false
open Go.RowKit Go.Shelf
abbrev BkX := Int × (Int × Int)
def bkX (ls : List (Int × Int)) : List BkX := (List.range ls.length).map fun j => (((ls.length - 1 - j : Nat) : Int), ls.getD (ls.length - 1 - j) (0, 0))
theorem bkX_rev (ls : List (Int × Int)) : (bkX ls).map (·.2) = ls.reverse := by
 apply List.ext_getElem
 ·simp [bkX]
 ·intro i h1 h2
  simp only [bkX, List.length_map, List.length_range, List.length_reverse] at h1 h2
  simp [bkX, List.getElem_reverse, List.getD, show ls.length - 1 - i < ls.length by omega]
def SymTy (o : Obj) : Prop := ∃ cs fz, o = .cells cs 82 fz
def KpT (N n1 Bs : Nat) (W W' : World) : Prop := Below N W W' /\ W'.heap[Bs]? = W.heap[Bs]? /\ ∀ (j : Nat) (o : Obj), j < n1 -> W.heap[j]? = some o -> ¬ SymTy o -> W'.heap[j]? = some o
theorem KpT.t {N n1 Bs : Nat} {A B C : World} (h : KpT N n1 Bs A B) (k : KpT N n1 Bs B C) : KpT N n1 Bs A C := ⟨h.1.trans k.1, k.2.1.trans h.2.1, fun j o hj q s => k.2.2 j o hj (h.2.2 j o hj q s) s⟩
theorem KpT.b {N n1 Bs : Nat} {w : World} (hn : N <= w.heap.size) (h1 : n1 <= w.heap.size) (hB : Bs < w.heap.size) (W : World) (l : Nat) (o o' : Obj) (hl : w.heap.size <= l) (h : W.heap[l]? = some o) (hc : o.isCells = false) (hk : o.isWalk = false) : KpT N n1 Bs W (W.putObj l o') :=
 ⟨belowK_b hn W l o o' hl h hc hk, World.putObj_heap_other (by omega), fun j o2 hj q _ => (World.putObj_heap_other (by omega)).trans q⟩
set_option maxRecDepth 100000 in
set_option maxHeartbeats 2000000 in
theorem backT_run (F : Fence) (n : Nat) (h7 : F.fn 153) (hro : F.round = none) (hn : 1 <= n) (l Bs N n1 : Nat) (ao : Option Addr) (cap : Nat) (ls : List (Int × Int)) (hl : ls.length <= 140737488355328) (J Jx : List BkX -> World -> Prop)
  (hY : ∀ pre x W, J pre W -> pre.length < ls.length -> YieldAt F (n - 1) Tryz.prog l #[.int .i64 x.1, .agg #[.int .i64 x.2.1, .int .i64 x.2.2]] W fun e W' =>
   (e = .returned (.bool true) /\ J (pre ++ [x]) W' /\ KpT N n1 Bs W W') ∨ (e = .returned (.bool false) /\ Jx (pre ++ [x]) W'))
  (W : World) (hBs : W.heap[Bs]? = some (.cells #[.slice ao ls.length cap] 100 (0, 0))) (hr : ∀ W', Below N W W' -> SymRow W' ao ls) (h0 : J [] W) :
  CallsIn F n Tryz.prog 153 #[.func (.yield l) #[] #[], .pointer (some ⟨Bs, 0, none⟩)] W fun e W' => (∃ v, e = .returned v) /\
   ((∃ ys, ys = bkX ls /\ J ys W') ∨ (∃ pre, True /\ Jx pre W')) := by
 obtain ⟨zs, hzs⟩ : ∃ zs, zs = bkX ls := ⟨_, rfl⟩
 have hzl : zs.length = ls.length := by rw [hzs]; simp [bkX]
 have hBc : W.cell? ⟨Bs, 0, none⟩ = some (.slice ao ls.length cap) := (cellq_any hBs).trans rfl
 rw [<- hzs]
 refine callsIn_of_wp Tryz.func153 rfl h7 ?_ hro
 simp only [Tryz.ntmps153, List.size_toArray, List.length_cons, List.length_nil, Nat.reduceAdd, Nat.reduceSub, Array.replicate_succ, Array.replicate_zero, List.push_toArray, List.append_toArray, List.nil_append, List.cons_append]
 gi_wp2
 gi_loopw [3] (fun i wr => ∃ k : Nat, k <= ls.length /\ i = .int .i64 ((ls.length : Int) - 1 - k) /\ J (zs.take k) wr /\ KpT N n1 Bs W wr)
  (fun i _ => (intOf i + 1).toNat)
 case atStart => exact ⟨0, Nat.zero_le _, by simp, h0, Below.refl _ _, rfl, fun _ _ _ q _ => q⟩
 case round =>
  obtain ⟨k, hk, rfl, hJs, hnx⟩ := hrel
  have hBr : wr.heap[Bs]? = some (.cells #[.slice ao ls.length cap] 100 (0, 0)) := hnx.2.1.trans hBs
  have hBc2 : wr.cell? ⟨Bs, 0, none⟩ = some (.slice ao ls.length cap) := (cellq_any hBr).trans rfl
  by_cases hlt : k < ls.length
  ·obtain ⟨x, hx⟩ : ∃ x, zs[k]'(by omega) = x := ⟨_, rfl⟩
   have hxv : x = (((ls.length - 1 - k : Nat) : Int), ls.getD (ls.length - 1 - k) (0, 0)) := by
    have e1 : zs[k]? = (bkX ls)[k]? := by rw [hzs]
    rw [List.getElem?_eq_getElem (by omega), hx] at e1
    simpa [bkX, hlt] using e1
   obtain ⟨fn, tmps, assign, body, hy, hR⟩ := hY _ x wr hJs (by rw [List.length_take]; omega)
   obtain ⟨b, off, rfl, _, hc⟩ := hr wr hnx.1 (by intro e; rw [e] at hlt; simp at hlt)
   obtain ⟨c0, c1⟩ := hc (ls.length - 1 - k) (by omega)
   have HS : Hid (zs.take (k + 1) = zs.take k ++ [x]) := by show _ = _; rw [List.take_succ_eq_append_getElem (by omega), hx]
   rw [hxv] at hy
   simp only at hy
   have hi : ((ls.length : Int) - 1 - k) = ((ls.length - 1 - k : Nat) : Int) := by omega
   have hik : ls.length - 1 - k < ls.length := by omega
   rw [hi]
   have HXV : Hid (x = (((ls.length - 1 - k : Nat) : Int), ls.getD (ls.length - 1 - k) (0, 0))) := hxv
   clear hxv
   generalize hI : ls.length - 1 - k = i at *
   generalize ls.getD i (0, 0) = s at *
   obtain ⟨s1, s2⟩ := s
   simp only at c0 c1 hy
   clear hc hBs hBc hzs HXV
   gi_wp2
   refine hR.mono ?_
   rintro e W3 (⟨rfl, hJ3, hk3⟩ | ⟨rfl, hJx3⟩)
   ·gi_wp2
    go_roundw
    case rel => exact ⟨k + 1, by omega, by go_num, by rw [HS.out]; exact hJ3, hnx.t hk3⟩
    case measure => simp [intOf]
   ·gi_wp2
    refine bodyPost_ret (results_none rfl _ _ _) rfl ?_
    exact ⟨⟨_, rfl⟩, .inr ⟨_, trivial, hJx3⟩⟩
  ·obtain rfl : k = ls.length := by omega
   have hneg : ((ls.length : Int) - 1 - (ls.length : Nat)) = -1 := by omega
   rw [hneg]
   gi_wp2
   go_end0
   exact ⟨⟨_, rfl⟩, .inl ⟨_, by rw [<- hzl, List.take_length], hJs⟩⟩
abbrev bkY (x : BkX) : Array Value := #[.int .i64 x.1, .agg #[.int .i64 x.2.1, .int .i64 x.2.2]]
theorem backT_seq (F : Fence) (n : Nat) (h7 : F.fn 153) (hro : F.round = none) (hn : 1 <= n) (Bs N n1 : Nat) (ao : Option Addr) (cap : Nat) (ls : List (Int × Int)) (hl : ls.length <= 140737488355328) (w : World) (hB : Bs < w.heap.size) (hBs : w.heap[Bs]? = some (.cells #[.slice ao ls.length cap] 100 (0, 0))) (hN : N <= w.heap.size) (hr : ∀ W', Below N w W' -> SymRow W' ao ls) :
  SeqStopsK F n Tryz.prog 153 #[.pointer (some ⟨Bs, 0, none⟩)] bkY (KpT N n1 Bs) (fun ys => ys = bkX ls) (fun _ => True) ls.length w := fun l J Jx W hW _ _ hY h0 =>
 backT_run F n h7 hro hn l Bs N n1 ao cap ls hl J Jx hY W ((hW.block _ hB).trans hBs) (fun _ hb => hr _ ((hW.mono hN).trans hb)) h0
set_option maxRecDepth 100000 in
set_option maxHeartbeats 1000000 in
theorem backward_W (ao : Option Addr) (len cap : Nat) (w : World) : Calls Tryz.prog 126 #[.slice ao len cap] w fun e w' => e = .returned (.func (.func 153) #[] #[.pointer (some ⟨w.heap.size, 0, none⟩)]) /\ w' = w.alloc (.cells #[.slice ao len cap] 100) := by
 go_enter Tryz.func126, Tryz.ntmps126
 go_wp2
 go_ret
 exact ⟨rfl, rfl⟩
theorem boxed_ownT {β : Type} (B : Nat) (t : TypeId) (v : Value) : Own (fun (_ : β) W => Boxed W B t v) := fun _ X Y row hs hg hrow =>
 hs.kept hg (fun e' => by obtain ⟨o, ho, hc⟩ := hrow B e'.symm; rw [show X.heap[B]? = _ from hs] at ho; cases ho; cases hc)
def FrS (w W : World) : Prop := ∀ (j : Nat) (o : Obj), w.heap[j]? = some o -> ¬ SymTy o -> W.heap[j]? = some o
theorem frS_own {β : Type} {w : World} {B : Nat} (hB : w.heap.size <= B) : OwnFrom B (fun (_ : β) W => Below 0 w W /\ FrS w W) := fun _ X Y row hs hg hr => by
 refine ⟨hs.1.grown hg (Nat.zero_le _) (fun _ _ => Nat.zero_le _), fun j o q s => ?_⟩
 rw [hg.block j (Nat.lt_of_lt_of_le (lt_of_block q) hs.1.size) (fun e => ?_), hs.2 j o q s]
 have := (hr j e.symm).1
 have := lt_of_block q
 omega
theorem symCells_app (l : List (Int × Int)) (x : Int × Int) : symCells (l ++ [x]) = symCells l ++ [.int .i64 x.1, .int .i64 x.2] := by simp [symCells]
set_option maxRecDepth 100000 in
set_option maxHeartbeats 4000000 in
theorem pushRight_W (N : Nat) (v : Value) (due : List (Int × Int)) (ra : Option Addr) (rc : Nat) (right : List (Int × Int)) (w : World) (hN : N <= w.heap.size) (hv : w.ownsRow N 82 2 v due.length (symCells due)) (hr : ∀ W', Below N w W' -> SymRow W' ra right) (hlen : due.length + right.length <= 1000000000) :
  Calls Tryz.prog 106 #[v, .slice ra right.length rc] w fun e w' => ∃ v', e = .returned v' /\ w'.ownsRow N 82 2 v' (due ++ right.reverse).length (symCells (due ++ right.reverse)) /\ Below N w w' /\ FrS w w' := by
 obtain ⟨va, vc, rfl⟩ : ∃ va vc, v = .slice va due.length vc := by
  rcases hv.2 with ⟨rfl, h0⟩ | ⟨g, cap, cur, rfl, _⟩
  ·exact ⟨none, 0, by rw [h0]⟩
  ·exact ⟨_, _, rfl⟩
 obtain ⟨i0, hi, hz0, hz1, hz2⟩ := infoSym_parts
 refine (callsIn_wide (n := 6)).1 ?_
 refine callsIn_of_wp_marks Tryz.func106 rfl trivial ?_ rfl
 simp only [Tryz.ntmps106, List.size_toArray, List.length_cons, List.length_nil, Nat.reduceAdd, Nat.reduceSub, Array.replicate_succ, Array.replicate_zero, List.push_toArray, List.append_toArray, List.nil_append, List.cons_append]
 gi_wp2_with (refine ⟨trivial, ?_⟩; gi_at_call 126; refine (callsIn_wide.2 (backward_W ra right.length rc _)).mono ?_; rintro e w' ⟨rfl, rfl⟩)
 have e1 : ∀ (u : World) (o : Obj), (u.alloc o).heap.size = u.heap.size + 1 := fun u o => by simp
 have b1 : Below w.heap.size w (w.alloc (.cells #[.slice va due.length vc] 100)) := below_alloc _ _
 have b2 : Below w.heap.size w ((w.alloc (.cells #[.slice va due.length vc] 100)).alloc (.cells #[.slice ra right.length rc] 100)) := b1.trans ((below_alloc _ _).mono b1.size)
 have k1 : Boxed ((w.alloc (.cells #[.slice va due.length vc] 100)).alloc (.cells #[.slice ra right.length rc] 100)) w.heap.size 100 (.slice va due.length vc) := ((below_alloc _ _).block _ (by simp)).trans (heap_alloc_new w _)
 have k2 : Boxed ((w.alloc (.cells #[.slice va due.length vc] 100)).alloc (.cells #[.slice ra right.length rc] 100)) (w.heap.size + 1) 100 (.slice ra right.length rc) := by
  have := heap_alloc_new (w.alloc (.cells #[.slice va due.length vc] 100)) (.cells #[.slice ra right.length rc] 100)
  rwa [e1] at this
 have hsz : ((w.alloc (.cells #[.slice va due.length vc] 100)).alloc (.cells #[.slice ra right.length rc] 100)).heap.size = w.heap.size + 1 + 1 := by rw [e1, e1]
 have hv2 := (hv.alloc (.cells #[.slice va due.length vc] 100)).alloc (.cells #[.slice ra right.length rc] 100)
 obtain ⟨W0, hW0⟩ : ∃ W0, (w.alloc (.cells #[.slice va due.length vc] 100)).alloc (.cells #[.slice ra right.length rc] 100) = W0 := ⟨_, rfl⟩
 rw [hW0] at b2 k1 k2 hsz hv2 ⊢
 clear hW0
 refine wpIn_rangeFunc_ownH rfl (by omega) (gf := 153) (lb := #[.pointer (some ⟨w.heap.size + 1, 0, none⟩)]) rfl trivial (enters_of Tryz.func153 (by kernel_rfl) rfl)
  (backT_seq Fence.wide _ trivial rfl (by omega) (w.heap.size + 1) N w.heap.size ra rc right (by omega) W0 (by omega) k2 (by omega) (fun W' hb => hr W' ((b2.mono hN).trans hb))) KpT.t (KpT.b (by omega) (by omega) (by omega)) (Below.refl _ _) (fun _ => rfl)
  (fun pre W => ((∃ v', Boxed W w.heap.size 100 v' /\ W.ownsRow N 82 2 v' (due.length + pre.length) (symCells (due ++ pre.map (·.2))) /\ True) /\ Boxed W (w.heap.size + 1) 100 (.slice ra right.length rc)) /\ (Below N w W /\ (Below 0 w W /\ FrS w W)))
  (fun _ _ _ => False)
  (OwnFrom.and (OwnFrom.and (Own.from (holdsRow_own N w.heap.size 100 82 2 (fun pre : List BkX => due.length + pre.length) (fun pre => symCells (due ++ pre.map (·.2))) (fun _ _ => True)) _) (Own.from (boxed_ownT _ _ _) _)) (OwnFrom.and (ownFrom_below hN (by omega)) (frS_own (by omega))))
  (fun _ _ _ _ _ hs _ _ => hs)
  ⟨⟨⟨.slice va due.length vc, k1, by simpa using hv2, trivial⟩, k2⟩, b2.mono hN, b2.mono (Nat.zero_le _), fun j o q _ => (b2.block _ (lt_of_block q)).trans q⟩
  (fun x a' W => ∃ Bx, w.heap.size + 1 < Bx /\ W.heap[Bx]? = some (yBoxC x.2.1 x.2.2) /\ a' = { tmps := #[.slice va due.length vc, .slice ra right.length rc, .pointer (some ⟨w.heap.size, 0, none⟩), undef, .slice none 0 0, undef, .pointer (some ⟨Bx, 0, none⟩), .slice ra right.length rc, .func (.func 153) #[] #[.pointer (some ⟨w.heap.size + 1, 0, none⟩)], .int .i64 x.1, .agg #[.int .i64 x.2.1, .int .i64 x.2.2], undef, undef, undef, undef, undef], defers := [] })
  (fun x a' _ X Y row hs hg hr' => by
   obtain ⟨Bx, h1, h2, h3⟩ := hs
   exact ⟨Bx, h1, (hg.block Bx (lt_of_block h2) (fun e => by obtain ⟨_, o, ho, hc⟩ := hr' Bx e.symm; rw [h2] at ho; cases ho; cases hc)).trans h2, h3⟩)
  ?assign ?body ?done ?stop
 case assign =>
  rintro l' pre x W K ⟨⟨⟨v1, c1, c2, _⟩, c3⟩, hB, hF⟩ hK
  have hsa := @Oper.semAt_some
  gi_wp2
  have hbA : Below W.heap.size W (W.alloc (yBoxC x.2.1 x.2.2)) := below_alloc _ _
  exact hK _ _ ((KeepsOthers.alloc _ _).from _) ⟨hbA.mono (Nat.le_trans hN hB.size), hbA.block _ c3.lt, fun j o hj q _ => (hbA.block _ (lt_of_block q)).trans q⟩ ⟨⟨⟨v1, c1.alloc _, c2.alloc _, trivial⟩, c3.alloc _⟩, hB.trans (hbA.mono (Nat.le_trans hN hB.size)), hF.1.trans (hbA.mono (Nat.zero_le _)), fun j o q s => (hbA.block _ (lt_of_block (hF.2 j o q s))).trans (hF.2 j o q s)⟩ ⟨W.heap.size, c3.lt, heap_alloc_new _ _, rfl⟩
 case body =>
  rintro l' pre x a' W hl' ⟨r, hr'⟩ ⟨⟨⟨v1, c1, c2, _⟩, c3⟩, hB, hF⟩ ⟨Bx, hBx, bX, rfl⟩ hlt
  have hcb := c1.cell
  have z0 : W.cell? ⟨Bx, 0, none⟩ = some (.int .i64 x.2.1) := (cellq_any bX).trans rfl
  have z1 : W.cell? ⟨Bx, 1, none⟩ = some (.int .i64 x.2.2) := (cellq_any bX).trans rfl
  have hsa := @Oper.semAt_some
  have hlt' : pre.length < 1000000000 := by omega
  have hdl : due.length + pre.length < 1000000000 := by omega
  have hNW : N <= W.heap.size := Nat.le_trans hN hB.size
  obtain ⟨v1a, v1n, v1c, rfl⟩ : ∃ a n c, v1 = .slice a n c := by
   rcases c2.2 with ⟨rfl, h0⟩ | ⟨g, cap, cur, rfl, _⟩
   ·exact ⟨_, _, _, rfl⟩
   ·exact ⟨_, _, _, rfl⟩
  obtain ⟨x1, s1, s2⟩ := x
  dsimp only at z0 z1 bX ⊢
  have NX : ∀ j u, [Value.int .i64 s1, Value.int .i64 s2][j]? = some u -> (W.alloc (yBoxC s1 s2)).cell? ((⟨W.heap.size, 0, none⟩ : Addr).add j) = some u := fun j u hu => by
   rw [add_none, Nat.zero_add, cellq_any (heap_alloc_new W (yBoxC s1 s2)), <- hu]
   simp
  gi_wp2_with (gi_at_builtin; refine wpListIn_append_own _ rfl _ _ 100 rfl N 82 i0 (.agg #[.int .i64 0, .int .i64 0]) 2 16 Tryz.underlying100 hi hz0 hz1 hz2 rfl (by decide) _ _ _ rfl (c2.alloc _) ⟨W.heap.size, 0, none⟩ 1 1 [.int .i64 s1, .int .i64 s2] rfl rfl NX (by simp [Value.oneCell']) (by unfold maxLen; omega) (by omega) (by simp; omega) ?_; intro v' w1 hown' hgrow _; obtain ⟨g', cap', rfl⟩ := ownsRow_succ hown'; obtain ⟨hv1, hv2', hr2, hk2, hb2⟩ := c1.appended (by decide) c2 hNW hN hown' hgrow; have hc1 := hv1.cell; have hf1 := hv1.frozen)
  have hgrow' : (W.alloc (yBoxC s1 s2)).grownBy w1 (Value.slice v1a v1n v1c).ownBlock := hgrow
  clear hgrow
  have hkeep : ∀ (j : Nat) (o : Obj), W.heap[j]? = some o -> j ≠ w.heap.size -> ¬ SymTy o -> (w1.setCell ⟨w.heap.size, 0, none⟩ (.slice (some ⟨g', 0, none⟩) (due.length + pre.length + 1) cap')).heap[j]? = some o := fun j o q hne hs => by
   rw [Below.heap_setCell _ _ _ _ (show j ≠ w.heap.size from hne), hgrow'.block j (by rw [e1]; have := lt_of_block q; omega) (fun e => ?_)]
   ·exact ((below_alloc _ _).block _ (lt_of_block q)).trans q
   ·rcases c2.2 with ⟨h0, _⟩ | ⟨g, cap, cur, h0, _, h2, _⟩
    ·rw [h0] at e
     simp [Value.ownBlock] at e
    ·rw [h0] at e
     simp [Value.ownBlock] at e
     subst e
     rw [h2] at q
     cases q
     exact hs ⟨_, _, rfl⟩
  have hns : ∀ cs fz, ¬ SymTy (.cells cs 100 fz) := fun cs fz ⟨_, _, e⟩ => by simp at e
  refine ⟨hk2.from _, ⟨hb2, ?_, fun j o hj q hs => hkeep j o q (by omega) hs⟩, ⟨⟨⟨_, hv2', ?_, trivial⟩, hkeep _ _ c3 (by omega) (hns _ _)⟩, hB.trans hb2, hF.1.trans (hb2.mono (Nat.zero_le _)), fun j o q hs => hkeep j o (hF.2 j o q hs) (by have := lt_of_block q; omega) hs⟩⟩
  ·rw [hkeep _ _ c3 (by omega) (hns _ _)]
   exact c3.symm
  ·have e3 : symCells (due ++ (pre ++ [(x1, s1, s2)]).map (·.2)) = symCells (due ++ pre.map (·.2)) ++ [.int .i64 s1, .int .i64 s2] := by
    rw [List.map_append, List.map_singleton, <- List.append_assoc, symCells_app]
   rw [e3]
   simpa [Nat.add_assoc] using hr2
 case done =>
  rintro D ys W hD rfl ⟨⟨⟨v1, c1, c2, _⟩, c3⟩, hB, hF⟩ hK
  have hcb := c1.cell
  have hys : due ++ (bkX right).map (·.2) = due ++ right.reverse := by rw [bkX_rev]
  have hyl : (bkX right).length = right.length := by simp [bkX]
  rw [hys, hyl] at c2
  gi_wp2
  refine ⟨by simp, .inl ⟨_, _, rfl, run_takeDeferred hK, ?_⟩⟩
  exact ⟨_, results_tmp rfl _ _ _, v1, rfl, by simpa using ownsRow_putObj c2 _ hK rfl, hB.trans (belowK_b (w := w) hN W D _ _ (by omega) hK rfl rfl), fun j o q hs => (World.putObj_heap_other (by have := lt_of_block q; omega)).trans (hF.2 j o q hs)⟩
 case stop =>
  rintro D c pre W _ _ h _
  exact h.elim
open Go.RowKit
theorem ent_measure1 : EntW 35 := fun _ _ => by kernel_rfl
theorem ent_measure2 : EntW 37 := fun _ _ => by kernel_rfl
theorem ib_cell {w : World} {b : Nat} {x : Int} (h : w.heap[b]? = some (iBox x)) : w.cell? ⟨b, 0, none⟩ = some (.int .i64 x) /\ w.frozen? ⟨b, 0, none⟩ = false := ⟨(cellq_any h).trans rfl, by simp [World.frozen?, h]⟩
theorem ib_set {w : World} {b : Nat} {x : Int} (h : w.heap[b]? = some (iBox x)) (y : Int) : (w.setCell ⟨b, 0, none⟩ (.int .i64 y)).heap[b]? = some (iBox y) := heap_setCell_same w b 0 _ _ _ h
theorem ib_ne {w : World} {b c : Nat} {o : Obj} (h : w.heap[c]? = some o) (hn : c ≠ b) (v : Value) : (w.setCell ⟨b, 0, none⟩ v).heap[c]? = some o := (Below.heap_setCell _ _ _ _ hn).trans h
structure FB5 (N : Nat) (b : Nat) (m : MS) (w0 wb w : World) : Prop where
 bel : Below N w0 w
 yn : N <= b
 pl : w.heap[b]? = some (iBox m.pl)
 lf : w.heap[b + 1]? = some (iBox m.lf)
 ht : w.heap[b + 2]? = some (iBox m.ht)
 dp : w.heap[b + 3]? = some (iBox m.dp)
 cv : w.heap[b + 4]? = some (iBox m.cv)
 on : OnStp N wb w
theorem onStp_set {N : Nat} {wb w : World} {b : Nat} {x y : Int} (h : OnStp N wb w) (hb : w.heap[b]? = some (iBox x)) : OnStp N wb (w.setCell ⟨b, 0, none⟩ (.int .i64 y)) := by
 refine ⟨?_, fun j o hj hN hs => ?_⟩
 ·have h3 : (w.setCell ⟨b, 0, none⟩ (.int .i64 y)).heap.size = w.heap.size := by simp [World.setCell]
  have := h.size
  omega
 ·have h1 := h.keep j o hj hN hs
  rw [Below.heap_setCell _ _ _ _ (show j ≠ b from fun e => ?_), h1]
  subst e
  rw [hb] at h1
  cases h1
  exact not_stp (by decide) hs
section
variable {N b : Nat} {m : MS} {w0 wb w : World}
theorem FB5.setPl (h : FB5 N b m w0 wb w) (y : Int) : FB5 N b ⟨y, m.lf, m.ht, m.dp, m.cv⟩ w0 wb (w.setCell ⟨b, 0, none⟩ (.int .i64 y)) :=
 ⟨h.bel.setCell (p := ⟨b, 0, none⟩) h.yn _, h.yn, ib_set h.pl y, ib_ne h.lf (by omega) _, ib_ne h.ht (by omega) _, ib_ne h.dp (by omega) _, ib_ne h.cv (by omega) _, onStp_set h.on h.pl⟩
theorem FB5.setLf (h : FB5 N b m w0 wb w) (y : Int) : FB5 N b ⟨m.pl, y, m.ht, m.dp, m.cv⟩ w0 wb (w.setCell ⟨b + 1, 0, none⟩ (.int .i64 y)) :=
 ⟨h.bel.setCell (p := ⟨b + 1, 0, none⟩) (Nat.le_succ_of_le h.yn) _, h.yn, ib_ne h.pl (by omega) _, ib_set h.lf y, ib_ne h.ht (by omega) _, ib_ne h.dp (by omega) _, ib_ne h.cv (by omega) _, onStp_set h.on h.lf⟩
theorem FB5.setHt (h : FB5 N b m w0 wb w) (y : Int) : FB5 N b ⟨m.pl, m.lf, y, m.dp, m.cv⟩ w0 wb (w.setCell ⟨b + 2, 0, none⟩ (.int .i64 y)) :=
 ⟨h.bel.setCell (p := ⟨b + 2, 0, none⟩) (Nat.le_trans h.yn (Nat.le_add_right _ _)) _, h.yn, ib_ne h.pl (by omega) _, ib_ne h.lf (by omega) _, ib_set h.ht y, ib_ne h.dp (by omega) _, ib_ne h.cv (by omega) _, onStp_set h.on h.ht⟩
theorem FB5.setDp (h : FB5 N b m w0 wb w) (y : Int) : FB5 N b ⟨m.pl, m.lf, m.ht, y, m.cv⟩ w0 wb (w.setCell ⟨b + 3, 0, none⟩ (.int .i64 y)) :=
 ⟨h.bel.setCell (p := ⟨b + 3, 0, none⟩) (Nat.le_trans h.yn (Nat.le_add_right _ _)) _, h.yn, ib_ne h.pl (by omega) _, ib_ne h.lf (by omega) _, ib_ne h.ht (by omega) _, ib_set h.dp y, ib_ne h.cv (by omega) _, onStp_set h.on h.dp⟩
theorem FB5.setCv (h : FB5 N b m w0 wb w) (y : Int) : FB5 N b ⟨m.pl, m.lf, m.ht, m.dp, y⟩ w0 wb (w.setCell ⟨b + 4, 0, none⟩ (.int .i64 y)) :=
 ⟨h.bel.setCell (p := ⟨b + 4, 0, none⟩) (Nat.le_trans h.yn (Nat.le_add_right _ _)) _, h.yn, ib_ne h.pl (by omega) _, ib_ne h.lf (by omega) _, ib_ne h.ht (by omega) _, ib_ne h.dp (by omega) _, ib_set h.cv y, onStp_set h.on h.cv⟩
end
set_option linter.unusedSimpArgs false in
set_option maxRecDepth 100000 in
set_option maxHeartbeats 4000000 in
theorem measure1_W (w0 : World) (b : Nat) (D : List EV) (p q : Nat) (t : TV) (w : World) (h : MSt w0 b D w) (ht : TBx w0 p q t) (hl : D.length <= 200000000) :
  Calls Tryz.prog 35 #[.pointer (some ⟨p, q, none⟩), .pointer (some ⟨b, 0, none⟩), .pointer (some ⟨b + 3, 0, none⟩), .pointer (some ⟨b + 1, 0, none⟩), .pointer (some ⟨b + 4, 0, none⟩), .pointer (some ⟨b + 2, 0, none⟩)] w fun e w' => e = .returned (.bool true) /\ OnStp w0.heap.size w w' /\ MSt w0 b (D ++ [⟨true, p, q, t⟩]) w' := by
 have hbd := msU_bd D
 have HR : Hid (∀ w', FB5 w0.heap.size b (msE (msU D) ⟨true, p, q, t⟩) w0 w w' -> OnStp w0.heap.size w w' /\ MSt w0 b (D ++ [⟨true, p, q, t⟩]) w') := fun w' f => ⟨f.on, f.bel, f.yn, by rw [msU_app]; exact f.pl, by rw [msU_app]; exact f.lf, by rw [msU_app]; exact f.ht, by rw [msU_app]; exact f.dp, by rw [msU_app]; exact f.cv⟩
 have f0 : FB5 w0.heap.size b (msU D) w0 w w := ⟨h.bel, h.yn, h.pl, h.lf, h.ht, h.dp, h.cv, OnStp.refl _ _⟩
 have CI : Hid (∀ w', Below w0.heap.size w0 w' -> Calls Tryz.prog 36 #[.pointer (some ⟨p, q, none⟩)] w' fun e w'' => e = .returned (.bool (t.prod == -1)) /\ w'' = w') := fun w' hb => isLeaf_W p q t w' (ht.later hb)
 obtain ⟨m, hm⟩ : ∃ m, msU D = m := ⟨_, rfl⟩
 rw [hm] at hbd HR f0
 obtain ⟨pl, lf, hh, dp, cv⟩ := m
 dsimp only at hbd
 obtain ⟨b0, b1, b2, b3, b4, b5, b6, b7, b8, b9⟩ := hbd
 have n0 : pl <= 200000000 := by omega
 have n1 : lf <= 200000000 := by omega
 have n2 : -200000000 <= dp := by omega
 have n3 : dp <= 200000000 := by omega
 have n4 : -200000000 <= cv := by omega
 have n5 : cv <= 200000000 := by omega
 have n6 : -200000000 <= hh := by omega
 have n7 : hh <= 200000000 := by omega
 clear h hm b1 b3 b4 b5 b6 b7 b8 b9 ht hl
 have F0 : Hid (FB5 w0.heap.size b ⟨pl, lf, hh, dp, cv⟩ w0 w w) := f0
 obtain ⟨c0, c1⟩ := ib_cell f0.pl
 clear f0
 go_enter Tryz.func35, Tryz.ntmps35
 go_upto_region 2 with fail
 refine wp_world (fun w' => FB5 w0.heap.size b ⟨pl + 1, lf, hh, dp, cv⟩ w0 w w') (F0.out.setPl _) fun w2 f2 => ?_
 have F2 : Hid (FB5 w0.heap.size b ⟨pl + 1, lf, hh, dp, cv⟩ w0 w w2) := f2
 clear c0 c1 F0
 obtain ⟨c0, c1⟩ := ib_cell f2.dp
 clear f2
 dsimp only at c0
 go_upto_region 3 with fail
 refine wp_world (fun w' => FB5 w0.heap.size b ⟨pl + 1, lf, hh, dp + 1, cv⟩ w0 w w') (F2.out.setDp _) fun w3 f3 => ?_
 have F3 : Hid (FB5 w0.heap.size b ⟨pl + 1, lf, hh, dp + 1, cv⟩ w0 w w3) := f3
 clear c0 c1 F2 f3
 by_cases hp : t.prod = -1
 ·have t1 : (t.prod == -1) = true := by simpa using hp
  rw [t1] at CI
  obtain ⟨c0, c1⟩ := ib_cell F3.out.lf
  dsimp only at c0
  clear t1
  go_upto_region 5 with (go_at_call 36; refine (CI.out _ F3.out.bel).mono ?_; rintro e w4 ⟨rfl, rfl⟩)
  refine wp_world (fun w' => FB5 w0.heap.size b ⟨pl + 1, lf + 1, hh, dp + 1, cv⟩ w0 w w') (F3.out.setLf _) fun w5 f5 => ?_
  have F5 : Hid (FB5 w0.heap.size b ⟨pl + 1, lf + 1, hh, dp + 1, cv⟩ w0 w w5) := f5
  clear c0 c1 F3 f5
  obtain ⟨c0, c1⟩ := ib_cell F5.out.cv
  dsimp only at c0
  go_upto_region 6 with fail
  refine wp_world (fun w' => FB5 w0.heap.size b ⟨pl + 1, lf + 1, hh, dp + 1, cv + 1⟩ w0 w w') (F5.out.setCv _) fun w6 f6 => ?_
  have F6 : Hid (FB5 w0.heap.size b ⟨pl + 1, lf + 1, hh, dp + 1, cv + 1⟩ w0 w w6) := f6
  clear c0 c1 F5 f6
  obtain ⟨c0, -⟩ := ib_cell F6.out.cv
  dsimp only at c0
  by_cases hz : cv + 1 = 0
  ·obtain rfl : cv = -1 := by omega
   obtain ⟨d0, d1⟩ := ib_cell F6.out.ht
   obtain ⟨e0, -⟩ := ib_cell F6.out.dp
   dsimp only at d0 e0
   have c2 : w6.cell? ⟨b + 4, 0, none⟩ = some (.int .i64 0) := c0
   clear c0
   by_cases hmx : dp + 1 <= hh
   ·have R : Hid (FB5 w0.heap.size b ⟨pl + 1, lf + 1, max hh (dp + 1), dp + 1, -1 + 1⟩ w0 w (w6.setCell ⟨b + 2, 0, none⟩ (.int .i64 hh))) := by
     have := F6.out.setHt (max hh (dp + 1))
     rwa [show max hh (dp + 1) = hh by omega] at this ⊢
    go_wp2
    go_ret
    exact ⟨rfl, HR.out _ (by unfold msE; simp only [hp, if_true]; exact R.out)⟩
   ·have R : Hid (FB5 w0.heap.size b ⟨pl + 1, lf + 1, max hh (dp + 1), dp + 1, -1 + 1⟩ w0 w (w6.setCell ⟨b + 2, 0, none⟩ (.int .i64 (dp + 1)))) := by
     have := F6.out.setHt (max hh (dp + 1))
     rwa [show max hh (dp + 1) = dp + 1 by omega] at this ⊢
    go_wp2
    go_ret
    exact ⟨rfl, HR.out _ (by unfold msE; simp only [hp, if_true]; exact R.out)⟩
  ·have t2 : (cv + 1 == 0) = false := by simpa using hz
   go_wp2
   go_ret
   exact ⟨rfl, HR.out _ (by unfold msE; simp [hp, hz]; exact F6.out)⟩
 ·have t1 : (t.prod == -1) = false := by simpa using hp
  rw [t1] at CI
  obtain ⟨c0, -⟩ := ib_cell F3.out.cv
  dsimp only at c0
  clear t1
  by_cases hz : cv = 0
  ·subst hz
   obtain ⟨d0, d1⟩ := ib_cell F3.out.ht
   obtain ⟨e0, -⟩ := ib_cell F3.out.dp
   dsimp only at d0 e0
   by_cases hmx : dp + 1 <= hh
   ·have R : Hid (FB5 w0.heap.size b ⟨pl + 1, lf, max hh (dp + 1), dp + 1, 0⟩ w0 w (w3.setCell ⟨b + 2, 0, none⟩ (.int .i64 hh))) := by
     have := F3.out.setHt (max hh (dp + 1))
     rwa [show max hh (dp + 1) = hh by omega] at this ⊢
    go_wp2_with (go_at_call 36; refine (CI.out _ F3.out.bel).mono ?_; rintro e w4 ⟨rfl, rfl⟩)
    go_ret
    exact ⟨rfl, HR.out _ (by unfold msE; simp only [hp, if_true, if_false]; exact R.out)⟩
   ·have R : Hid (FB5 w0.heap.size b ⟨pl + 1, lf, max hh (dp + 1), dp + 1, 0⟩ w0 w (w3.setCell ⟨b + 2, 0, none⟩ (.int .i64 (dp + 1)))) := by
     have := F3.out.setHt (max hh (dp + 1))
     rwa [show max hh (dp + 1) = dp + 1 by omega] at this ⊢
    go_wp2_with (go_at_call 36; refine (CI.out _ F3.out.bel).mono ?_; rintro e w4 ⟨rfl, rfl⟩)
    go_ret
    exact ⟨rfl, HR.out _ (by unfold msE; simp only [hp, if_true, if_false]; exact R.out)⟩
  ·have t2 : (cv == 0) = false := by simpa using hz
   go_wp2_with (go_at_call 36; refine (CI.out _ F3.out.bel).mono ?_; rintro e w4 ⟨rfl, rfl⟩)
   go_ret
   exact ⟨rfl, HR.out _ (by unfold msE; simp only [hp, hz, if_true, if_false]; exact F3.out)⟩
set_option linter.unusedSimpArgs false in
set_option maxRecDepth 100000 in
set_option maxHeartbeats 4000000 in
theorem measure2_W (w0 : World) (b : Nat) (D : List EV) (p q : Nat) (t : TV) (w : World) (h : MSt w0 b D w) (ht : TBx w0 p q t) (hl : D.length <= 200000000) :
  Calls Tryz.prog 37 #[.pointer (some ⟨p, q, none⟩), .pointer (some ⟨b + 3, 0, none⟩), .pointer (some ⟨b + 4, 0, none⟩)] w fun e w' => e = .returned (.tuple #[]) /\ OnStp w0.heap.size w w' /\ MSt w0 b (D ++ [⟨false, p, q, t⟩]) w' := by
 have hbd := msU_bd D
 have HR : Hid (∀ w', FB5 w0.heap.size b (msE (msU D) ⟨false, p, q, t⟩) w0 w w' -> OnStp w0.heap.size w w' /\ MSt w0 b (D ++ [⟨false, p, q, t⟩]) w') := fun w' f => ⟨f.on, f.bel, f.yn, by rw [msU_app]; exact f.pl, by rw [msU_app]; exact f.lf, by rw [msU_app]; exact f.ht, by rw [msU_app]; exact f.dp, by rw [msU_app]; exact f.cv⟩
 have f0 : FB5 w0.heap.size b (msU D) w0 w w := ⟨h.bel, h.yn, h.pl, h.lf, h.ht, h.dp, h.cv, OnStp.refl _ _⟩
 have CI : Hid (∀ w', Below w0.heap.size w0 w' -> Calls Tryz.prog 36 #[.pointer (some ⟨p, q, none⟩)] w' fun e w'' => e = .returned (.bool (t.prod == -1)) /\ w'' = w') := fun w' hb => isLeaf_W p q t w' (ht.later hb)
 obtain ⟨m, hm⟩ : ∃ m, msU D = m := ⟨_, rfl⟩
 rw [hm] at hbd HR f0
 obtain ⟨pl, lf, hh, dp, cv⟩ := m
 dsimp only at hbd
 obtain ⟨b0, b1, b2, b3, b4, b5, b6, b7, b8, b9⟩ := hbd
 have n2 : -200000000 <= dp := by omega
 have n3 : dp <= 200000000 := by omega
 have n4 : -200000000 <= cv := by omega
 have n5 : cv <= 200000000 := by omega
 clear h hm b0 b1 b2 b3 b4 b5 b6 b7 b8 b9 ht hl
 have F0 : Hid (FB5 w0.heap.size b ⟨pl, lf, hh, dp, cv⟩ w0 w w) := f0
 obtain ⟨c0, c1⟩ := ib_cell f0.dp
 dsimp only at c0
 clear f0
 go_enter Tryz.func37, Tryz.ntmps37
 go_upto_region 1 with fail
 refine wp_world (fun w' => FB5 w0.heap.size b ⟨pl, lf, hh, dp - 1, cv⟩ w0 w w') (F0.out.setDp _) fun w2 f2 => ?_
 have F2 : Hid (FB5 w0.heap.size b ⟨pl, lf, hh, dp - 1, cv⟩ w0 w w2) := f2
 clear c0 c1 F0 f2
 by_cases hp : t.prod = -1
 ·have t1 : (t.prod == -1) = true := by simpa using hp
  rw [t1] at CI
  clear t1
  obtain ⟨c0, c1⟩ := ib_cell F2.out.cv
  dsimp only at c0
  have R : Hid (FB5 w0.heap.size b ⟨pl, lf, hh, dp - 1, cv - 1⟩ w0 w (w2.setCell ⟨b + 4, 0, none⟩ (.int .i64 (cv - 1)))) := F2.out.setCv _
  go_wp2_with (go_at_call 36; refine (CI.out _ F2.out.bel).mono ?_; rintro e w4 ⟨rfl, rfl⟩)
  refine bodyPost_end (results_none rfl _ _ _) rfl ?_
  exact ⟨rfl, HR.out _ (by unfold msE; simp only [hp, if_true]; exact R.out)⟩
 ·have t1 : (t.prod == -1) = false := by simpa using hp
  rw [t1] at CI
  clear t1
  go_wp2_with (go_at_call 36; refine (CI.out _ F2.out.bel).mono ?_; rintro e w4 ⟨rfl, rfl⟩)
  refine bodyPost_end (results_none rfl _ _ _) rfl ?_
  exact ⟨rfl, HR.out _ (by unfold msE; simp only [hp, if_false]; exact F2.out)⟩
end Go.Proofs.YteciabdjkaackaaGreat
