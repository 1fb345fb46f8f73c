import Derived.Test.YtflcnlefcnclkaaFMem7
import Derived.RangeFuncNested
import Derived.RangeFuncLeaves
import Derived.Shelf.Abstract
import Derived.WalkKit
import Derived.OwnWalkIn
import Derived.TacticsInMore
import Derived.LoopNIn
import Derived.LoopIn
namespace Go.Proofs.Ytflcnlefcnclkaa
set_option linter.unusedVariables false
open Go.RowKit Go.Shelf

/-- A symbol that claims know of. -/
def SymIn (n : Nat) (s : Int × Int) : Prop := (s.1 = 1 ∧ 0 ≤ s.2 ∧ s.2 < 64) ∨ (s.1 = 2 ∧ 0 ≤ s.2 ∧ s.2 < n)
abbrev BkA (n : Nat) := { x : Int × (Int × Int) // SymIn n x.2 }
theorem sub_list {β : Type} (p : β → Prop) : ∀ L : List β, (∀ x ∈ L, p x) → ∃ zs : List { x // p x }, zs.map Subtype.val = L
  | [], _ => ⟨[], rfl⟩
  | x :: L, h => by
    obtain ⟨zs, e⟩ := sub_list p L (fun y hy => h y (by simp [hy]))
    exact ⟨⟨x, h x (by simp)⟩ :: zs, by simp [e]⟩
/-- What comes, in this order. -/
def bkL (ls : List (Int × Int)) : List (Int × (Int × Int)) := (List.range ls.length).map fun j => (((ls.length - 1 - j : Nat) : Int), ls.getD (ls.length - 1 - j) (0, 0))
def KpB (n₀ Bs : Nat) (W W' : World) : Prop := Below n₀ W W' ∧ W'.heap[Bs]? = W.heap[Bs]?
set_option maxRecDepth 100000 in
set_option maxHeartbeats 2000000 in
theorem back_run (F : Fence) (n : Nat) (h7 : F.fn 50) (hro : F.round = none) (hn : 1 ≤ n) (l Bs n₀ : Nat) (ao : Option Addr) (cap m : Nat) (ls : List (Int × Int)) (hl : ls.length ≤ 1048576) (zs : List (BkA m)) (hzs : zs.map Subtype.val = bkL ls) (J Jx : List (BkA m) → World → Prop)
    (hY : ∀ pre x W, J pre W → pre.length < ls.length → YieldAt F (n - 1) Try.prog l #[.int .i64 x.1.1, .agg #[.int .i64 x.1.2.1, .int .i64 x.1.2.2]] W fun e W' =>
      (e = .returned (.bool true) ∧ J (pre ++ [x]) W' ∧ KpB n₀ Bs W W') ∨ (e = .returned (.bool false) ∧ Jx (pre ++ [x]) W'))
    (W : World) (hBs : W.heap[Bs]? = some (.cells #[.slice ao ls.length cap] 53 (0, 0))) (hr : ∀ W', Below n₀ W W' → SymRow W' ao ls) (h0 : J [] W) :
    CallsIn F n Try.prog 50 #[.func (.yield l) #[] #[], .pointer (some ⟨Bs, 0, none⟩)] W fun e W' => (∃ v, e = .returned v) ∧
      ((∃ ys, ys = zs ∧ J ys W') ∨ (∃ pre, True ∧ Jx pre W')) := by
  have hzl : zs.length = ls.length := by simpa [bkL] using congrArg List.length hzs
  have hBc : W.cell? ⟨Bs, 0, none⟩ = some (.slice ao ls.length cap) := (cellq_any hBs).trans rfl
  refine callsIn_of_wp Try.func50 rfl h7 ?_ hro
  simp only [Try.ntmps50, List.size_toArray, List.length_cons, List.length_nil, Nat.reduceAdd, Nat.reduceSub, Array.replicate_succ, Array.replicate_zero, List.push_toArray, List.append_toArray, List.nil_append, List.cons_append]
  gi_wp2
  gi_loopw [3] (fun i wr => ∃ k : Nat, k ≤ ls.length ∧ i = .int .i64 ((ls.length : Int) - 1 - k) ∧ J (zs.take k) wr ∧ KpB n₀ Bs W wr)
    (fun i _ => (intOf i + 1).toNat)
  case atStart => exact ⟨0, Nat.zero_le _, by simp, h0, Below.refl _ _, rfl⟩
  case round =>
    obtain ⟨k, hk, rfl, hJs, hnx⟩ := hrel
    have hBr : wr.heap[Bs]? = some (.cells #[.slice ao ls.length cap] 53 (0, 0)) := hnx.2.trans hBs
    have hBc2 : wr.cell? ⟨Bs, 0, none⟩ = some (.slice ao ls.length cap) := (cellq_any hBr).trans rfl
    by_cases hlt : k < ls.length
    · obtain ⟨x, hx⟩ : ∃ x, zs[k]'(by omega) = x := ⟨_, rfl⟩
      have hxv : x.1 = (((ls.length - 1 - k : Nat) : Int), ls.getD (ls.length - 1 - k) (0, 0)) := by
        have e1 : (zs.map Subtype.val)[k]? = (bkL ls)[k]? := by rw [hzs]
        rw [List.getElem?_map, List.getElem?_eq_getElem (by omega), hx] at e1
        simpa [bkL, hlt] using e1
      obtain ⟨fn, tmps, assign, body, hy, hR⟩ := hY _ x wr hJs (by rw [List.length_take]; omega)
      obtain ⟨b, off, rfl, _, hc⟩ := hr wr hnx.1 (by intro e; rw [e] at hlt; simp at hlt)
      obtain ⟨c0, c1⟩ := hc (ls.length - 1 - k) (by omega)
      have HS : Hid (zs.take (k + 1) = zs.take k ++ [x]) := by show _ = _; rw [List.take_succ_eq_append_getElem (by omega), hx]
      rw [hxv] at hy
      simp only at hy
      have hi : ((ls.length : Int) - 1 - k) = ((ls.length - 1 - k : Nat) : Int) := by omega
      have hik : ls.length - 1 - k < ls.length := by omega
      rw [hi]
      generalize hI : ls.length - 1 - k = i at *
      generalize ls.getD i (0, 0) = s at *
      obtain ⟨s1, s2⟩ := s
      simp only at c0 c1 hy
      clear hc hBs hBc hzs
      gi_wp2
      refine hR.mono ?_
      rintro e W3 (⟨rfl, hJ3, hk3⟩ | ⟨rfl, hJx3⟩)
      · gi_wp2
        go_roundw
        case rel => exact ⟨k + 1, by omega, by go_num, by rw [HS.out]; exact hJ3, hnx.1.trans hk3.1, hk3.2.trans hnx.2⟩
        case measure => simp [intOf]
      · gi_wp2
        refine bodyPost_ret (results_none rfl _ _ _) rfl ?_
        exact ⟨⟨_, rfl⟩, .inr ⟨_, trivial, hJx3⟩⟩
    · obtain rfl : k = ls.length := by omega
      have hneg : ((ls.length : Int) - 1 - (ls.length : Nat)) = -1 := by omega
      rw [hneg]
      gi_wp2
      go_end0
      exact ⟨⟨_, rfl⟩, .inl ⟨_, by rw [← hzl, List.take_length], hJs⟩⟩
abbrev bkE (m : Nat) (x : BkA m) : Array Value := #[.int .i64 x.1.1, .agg #[.int .i64 x.1.2.1, .int .i64 x.1.2.2]]
theorem back_seq (F : Fence) (n : Nat) (h7 : F.fn 50) (hro : F.round = none) (hn : 1 ≤ n) (Bs n₀ : Nat) (ao : Option Addr) (cap m : Nat) (ls : List (Int × Int)) (hl : ls.length ≤ 1048576) (zs : List (BkA m)) (hzs : zs.map Subtype.val = bkL ls) (w : World) (hB : Bs < w.heap.size) (hBs : w.heap[Bs]? = some (.cells #[.slice ao ls.length cap] 53 (0, 0))) (w0 : World) (hw0 : w0.heap.size = n₀) (hw : Below n₀ w0 w) (hr : SymRow w0 ao ls) :
    SeqStopsK F n Try.prog 50 #[.pointer (some ⟨Bs, 0, none⟩)] (bkE m) (KpB n₀ Bs) (fun ys => ys = zs) (fun _ => True) ls.length w := fun l J Jx W hW _ _ hY h0 =>
  back_run F n h7 hro hn l Bs n₀ ao cap m ls hl zs hzs J Jx hY W ((hW.block _ hB).trans hBs) (fun _ hb => hr.later (by omega) ((hw.trans (hW.mono (by rw [← hw0]; exact hw.size))).trans hb)) h0
/-- Cells in a block. -/
def CellsAt (W : World) (B : Nat) (C : Array Value) (t : TypeId) : Prop := W.heap[B]? = some (.cells C t (0, 0))
theorem CellsAt.lt {W : World} {B : Nat} {C : Array Value} {t : TypeId} (h : CellsAt W B C t) : B < W.heap.size := lt_of_block h
theorem CellsAt.kept {W W' : World} {row : Option Nat} {B : Nat} {C : Array Value} {t : TypeId} (h : CellsAt W B C t) (hg : W.grownBy W' row) (hne : some B ≠ row) : CellsAt W' B C t := (hg.block B h.lt hne).trans h
theorem CellsAt.alloc {W : World} {B : Nat} {C : Array Value} {t : TypeId} (h : CellsAt W B C t) (o : Obj) : CellsAt (W.alloc o) B C t := ((below_alloc W o).block _ h.lt).trans h
theorem cellsAt_own {β : Type} (B : Nat) (t : TypeId) (f : β → Array Value) : Own (fun s W => CellsAt W B (f s) t) := fun s X Y row hs hg hrow =>
  hs.kept hg (fun e' => by obtain ⟨o, ho, hc⟩ := hrow B e'.symm; rw [show X.heap[B]? = _ from hs] at ho; cases ho; cases hc)
theorem KpB.t {n₀ Bs : Nat} {A B C : World} (h : KpB n₀ Bs A B) (k : KpB n₀ Bs B C) : KpB n₀ Bs A C := ⟨h.1.trans k.1, k.2.trans h.2⟩
theorem KpB.b {n₀ Bs : Nat} {w : World} (hn : n₀ ≤ w.heap.size) (hB : Bs < w.heap.size) (W : World) (l : Nat) (o o' : Obj) (hl : w.heap.size ≤ l) (h : W.heap[l]? = some o) (hc : o.isCells = false) (hk : o.isWalk = false) : KpB n₀ Bs W (W.putObj l o') :=
  ⟨belowK_b hn W l o o' hl h hc hk, World.putObj_heap_other (by omega)⟩
def ofS (N : List Bool) (F : List BS) (l : List (Int × Int)) (look : BS) : BS := l.foldr (aheadS N F) look
/-- What has come of a beginning of what comes. -/
def accS (N : List Bool) (F : List BS) (look : BS) {m : Nat} (pre : List (BkA m)) : BS := pre.foldl (fun a x => aheadS N F x.1.2 a) look
theorem accS_succ (N : List Bool) (F : List BS) (look : BS) {m : Nat} (pre : List (BkA m)) (x : BkA m) : accS N F look (pre ++ [x]) = aheadS N F x.1.2 (accS N F look pre) := by simp [accS]
theorem bkL_rev (ls : List (Int × Int)) : (bkL ls).map (·.2) = ls.reverse := by
  apply List.ext_getElem
  · simp [bkL]
  · intro i h1 h2
    simp only [bkL, List.length_map, List.length_range, List.length_reverse] at h1 h2
    simp [bkL, List.getElem_reverse, List.getD, show ls.length - 1 - i < ls.length by omega]
theorem accS_all (N : List Bool) (F : List BS) (look : BS) {m : Nat} (ls : List (Int × Int)) (zs : List (BkA m)) (h : zs.map Subtype.val = bkL ls) : accS N F look zs = ofS N F ls look := by
  have e : zs.map (fun x => x.1.2) = ls.reverse := by
    rw [← bkL_rev, ← h, List.map_map]
    rfl
  unfold accS ofS
  rw [← List.foldl_reverse, ← e, List.foldl_map]
theorem ahead_ok {N : List Bool} {F : List BS} {s : Int × Int} {look : BS} (hF : ∀ i, OkS (F.getD i (0, 0))) (hs : SymIn N.length s) (hk : OkS look) : OkS (aheadS N F s look) := by
  unfold aheadS
  split
  · rename_i h1
    refine setS_ok fun x hx => ?_
    obtain rfl := List.mem_singleton.1 hx
    rcases hs with q | q <;> omega
  · split
    · exact hk.with (hF _)
    · exact hF _
theorem ofS_ok {N : List Bool} {F : List BS} (hF : ∀ i, OkS (F.getD i (0, 0))) : ∀ (l : List (Int × Int)) (look : BS), (∀ s ∈ l, SymIn N.length s) → OkS look → OkS (ofS N F l look)
  | [], _, _, hk => hk
  | s :: l, look, hs, hk => ahead_ok hF (hs s (by simp)) (ofS_ok hF l look (fun x hx => hs x (by simp [hx])) hk)
end Go.Proofs.Ytflcnlefcnclkaa
