import Derived.Test.YtboabidokkghbaaGreatGIntactLToGL1
import Derived.Test.YtboabidokkghbaaGreatFR4ToFR5
import Derived.Test.YtboabidokkghbaaGreatFSamToFClo
import Derived.Test.YtboabidokkghbaaGreatGDec12ToGDec14
namespace Go.Proofs.YtboabidokkghbaaGreat
set_option linter.unusedVariables false
open Go.RowKit

/-- What lasts through FirstChecks, behind what was handed in. -/
structure FK (g x : GV) (w : World) (V : Nat → Value) (E : Nat → List HE) (n1 : Nat) (nb : Nat) (ma : Option Addr) (N : List Bool) (L : List (List Int)) (wr : World) : Prop where
  bel : Below w.heap.size w wr
  box : wr.heap[w.heap.size]? = some (gBox g)
  hk : HK (w.heap.size + 1) (w.alloc (gBox g)) wr (w.heap.size + 1) V E n1 (0 + 2) (0 + 1) (0 + g.ps.length)
  same : SameG g x
  gx : GX wr x
  ub : UB wr nb N
  ls : LsRow wr ma L
theorem FK.later {g x : GV} {w wr w' : World} {V : Nat → Value} {E : Nat → List HE} {n1 nb : Nat} {ma : Option Addr} {N : List Bool} {L : List (List Int)} (h : FK g x w V E n1 nb ma N L wr) (hb : Below wr.heap.size wr w') : FK g x w V E n1 nb ma N L w' :=
  ⟨h.bel.trans (hb.mono h.bel.size), blk_later h.box hb, h.hk.later hb, h.same, h.gx.later hb, h.ub.oth (Oth.ofBelow hb), h.ls.later hb⟩
theorem getD_map {α β : Type} (f : α → β) (l : List α) (d : α) (i : Nat) : (l.map f).getD i (f d) = f (l.getD i d) := by
  simp [List.getD, List.getElem?_map]
theorem same_core {g x : GV} (h : SameG g x) (i : Nat) : (x.ps.getD i .none).core = (g.ps.getD i .none).core := by
  rw [← getD_map PV.core, ← getD_map PV.core, h.ps]
theorem same_left {g x : GV} (h : SameG g x) (i : Nat) : (x.ps.getD i .none).left = (g.ps.getD i .none).left := congrArg (·.1) (same_core h i)
theorem same_right {g x : GV} (h : SameG g x) (i : Nat) : (x.ps.getD i .none).right = (g.ps.getD i .none).right := congrArg (·.2.1) (same_core h i)
theorem same_len {g x : GV} (h : SameG g x) : x.ps.length = g.ps.length := by simpa using congrArg List.length h.ps
theorem firstV_same {v : PV → Bool} {er : Int} {ps qs : List PV} (hl : qs.length = ps.length) (hv : ∀ i, v (qs.getD i .none) = v (ps.getD i .none)) : ∀ k, firstV v er qs k = firstV v er ps k
  | 0 => rfl
  | k + 1 => by rw [firstV, firstV, hl, hv, firstV_same hl hv k]
theorem firstO_same {v u : Nat → Option (Int × Int)} (h : ∀ i, v i = u i) : v = u := funext h
theorem same_chkN {g x : GV} (h : SameG g x) (N : List Bool) : chkN N x.ps = chkN N g.ps := by
  unfold chkN
  rw [same_len h]
  exact firstV_same (same_len h) (fun i => by unfold violN; rw [same_left h, same_right h]) _
theorem same_badP {g x : GV} (h : SameG g x) (N : List Bool) (F : List BS) : badP N F x.ps = badP N F g.ps := by
  funext i
  unfold badP
  rw [same_left h, same_right h]
theorem same_chkF {g x : GV} (h : SameG g x) (N : List Bool) (L : List (List Int)) : chkF N L x.ps x.ts.length = chkF N L g.ps g.ts.length := by
  unfold chkF
  rw [same_badP h, same_len h, h.ts]
theorem same_chkNU {g x : GV} (h : SameG g x) (N : List Bool) (er : Int) : chkNU x N er = chkNU g N er := by
  unfold chkNU askU
  rw [same_chkN h, h.ns]
theorem same_chkFU {g x : GV} (h : SameG g x) (N : List Bool) (L : List (List Int)) (er : Int) : chkFU x N L er = chkFU g N L er := by
  unfold chkFU askC askU
  rw [same_chkF h, h.ns]
theorem chkNU_bad (g : GV) (N : List Bool) {er : Int} (h : er ≠ 0) : chkNU g N er = (er, 0) := by simp [chkNU, askU, h]
theorem chkFU_bad (g : GV) (N : List Bool) (L : List (List Int)) {er : Int} (h : er ≠ 0) : chkFU g N L er = (er, 0) := by simp [chkFU, askC, askU, h]
set_option maxRecDepth 100000 in
set_option maxHeartbeats 8000000 in
theorem checks_walk (g : GV) (na fa : Option Addr) (nc fc : Nat) (N : List Bool) (L : List (List Int)) (w : World) (h : GAt 1048576 w g) (hN : BRow w na N) (hNl : N.length ≤ 1048576) (hL : LsRow w fa L) (hll : L.length ≤ 1048576 ∧ ∀ l ∈ L, l.length ≤ 1048576) :
    Calls Tryz.prog 5 #[g.val, .slice na N.length nc, .slice fa L.length fc] w fun e w' => e = .returned (.bool true) ∧ Below w.heap.size w w' := by
  have X0 : Hid ((w.alloc (gBox g)).heap[w.heap.size]? = some (gBox g)) := heap_alloc_new _ _
  have H0 : Hid (HG (w.heap.size + 1) (w.alloc (gBox g)) ((w.alloc (gBox g)).alloc gvBoxT) (w.heap.size + 1) (fun _ => hNil) (fun _ => []) 0 0 0) := by
    have := hg_newT (w.heap.size + 1) (w.alloc (gBox g)) (w.alloc (gBox g)) (Below.refl _ _) (by simp)
    rw [show (w.alloc (gBox g)).heap.size = w.heap.size + 1 by simp] at this
    exact this
  have B0 : Hid (∀ wr, Below (w.heap.size + 1) (w.alloc (gBox g)) wr → Below w.heap.size w wr ∧ wr.heap[w.heap.size]? = some (gBox g) ∧ GAt 1048576 wr g ∧ BRow wr na N ∧ LsRow wr fa L) := fun wr hb => by
    have b1 : Below w.heap.size w wr := (below_alloc w _).trans (hb.mono (by omega))
    exact ⟨b1, (hb.block _ (by omega)).trans (heap_alloc_new _ _), h.later b1, hN.later b1, hL.later b1⟩
  have HLL : Hid (L.length ≤ 1048576 ∧ ∀ l ∈ L, l.length ≤ 1048576) := hll
  have t7 := h.ll
  have t8 := h.pl
  obtain ⟨er, at_, HE⟩ : ∃ er at_, Hid (checkG g (checkF g.ts g.ns) = (er, at_)) := ⟨_, _, rfl⟩
  have CN : Hid (∀ x V E n1 nb ma wr, FK g x w V E n1 nb ma N L wr → Calls Tryz.prog 30 #[x.val, .slice (some ⟨nb, 0, none⟩) N.length (N.length + 3)] wr fun e w' => e = .returned (.tuple #[.int .i64 (chkNU g N er).1, .int .i64 (chkNU g N er).2]) ∧ Below wr.heap.size wr w') := fun x V E n1 nb ma wr k => by
    have ha := k.gx.at k.same h
    have := chkNull_S x (some ⟨nb, 0, none⟩) (N.length + 3) N wr (ha.1.mono (by omega)) ha.2 er at_ ((same_check k.same).trans HE.out) k.ub.row
    rwa [same_chkNU k.same] at this
  have CF : Hid (∀ x V E n1 nb ma mc wr, FK g x w V E n1 nb ma N L wr → Calls Tryz.prog 31 #[x.val, .slice (some ⟨nb, 0, none⟩) N.length (N.length + 3), .slice ma L.length mc] wr fun e w' => e = .returned (.tuple #[.int .i64 (chkFU g N L er).1, .int .i64 (chkFU g N L er).2]) ∧ Below wr.heap.size wr w') := fun x V E n1 nb ma mc wr k => by
    have ha := k.gx.at k.same h
    have := chkFirst_S x (some ⟨nb, 0, none⟩) (N.length + 3) N ma mc L wr (ha.1.mono (by omega)) ha.2 er at_ ((same_check k.same).trans HE.out) k.ub.row k.ls (fun l hl => Nat.le_trans (hll.2 l hl) (by omega))
    rwa [same_chkFU k.same] at this
  have MY : Hid (∀ wr, Below w.heap.size w wr → Calls Tryz.prog 11 #[g.val] wr fun e w' => e = .returned (.int .i64 er) ∧ Below wr.heap.size wr w') := fun wr hb => by
    have := refmay_G g wr ((h.later hb).mono (by omega))
    rwa [HE.out] at this
  obtain ⟨x0, x1, x2, x3, x4⟩ := gb_cells (b := w.heap.size) (w' := (w.alloc (gBox g)).alloc gvBoxT) (((below_alloc (w.alloc (gBox g)) gvBoxT).block _ (by simp)).trans X0.out)
  by_cases h0 : er = 0
  · subst h0
    have ok : OkC g := OkC.of (by rw [HE.out])
    have RN : Hid (∀ wr, Below w.heap.size w wr → Calls Tryz.prog 32 #[g.val, .slice na N.length nc] wr fun e w' => e = .returned (.tuple #[.int .i64 (chkNU g N 0).1, .int .i64 (chkNU g N 0).2]) ∧ Below wr.heap.size wr w') := fun wr hb => rchkNull_S g na nc N wr (ok.fg (h.later hb)) (hN.later hb) (by omega)
    have RF : Hid (∀ wr, Below w.heap.size w wr → Calls Tryz.prog 33 #[g.val, .slice na N.length nc, .slice fa L.length fc] wr fun e w' => e = .returned (.tuple #[.int .i64 (chkFU g N L 0).1, .int .i64 (chkFU g N L 0).2]) ∧ Below wr.heap.size wr w') := fun wr hb => rchkFirst_S g na nc N fa fc L wr (ok.fg (h.later hb)) (hN.later hb) (hL.later hb) (by omega) ⟨by have := hll.1; omega, fun l hl => Nat.le_trans (hll.2 l hl) (by omega)⟩
    have t1 : ((0 : Int) != 0) = false := by decide
    clear h hN hL hll ok
    generalize chkNU g N 0 = c1 at *
    generalize chkFU g N L 0 = c2 at *
    obtain ⟨c1a, c1b⟩ := c1
    obtain ⟨c2a, c2b⟩ := c2
    have t2 : (c1a == c1a) = true := by simp
    have t3 : (c1b == c1b) = true := by simp
    have t4 : (c2a == c2a) = true := by simp
    have t5 : (c2b == c2b) = true := by simp
    go_enter Tryz.func5, Tryz.ntmps5
    go_wp2_with (first
    | (go_at_call 6; refine (hg_gram H0.out (by omega) (by omega) (by omega) g (GAt.fine (B0.out _ (H0.out.bel)).2.2.1) (fun wr hb => (B0.out wr (H0.out.bel.trans hb)).2.2.1.mono (by omega))).mono ?_; rintro e w1 ⟨x, rfl, hs, hx, ho⟩; obtain ⟨V1, E1, h1⟩ := ho.ex; have A1 : Hid (HK (w.heap.size + 1) (w.alloc (gBox g)) w1 (w.heap.size + 1) V1 E1 (0 + g.ls.length) (0 + 2) 0 (0 + g.ps.length) ∧ SameG g x ∧ GX w1 x) := ⟨h1.hk, hs, hx⟩; clear hs hx ho h1 x0 x1 x2 x3 x4)
    | (go_at_call 22; refine (hk_boolF A1.out.1 (by omega) na nc N (by omega) (B0.out w1 A1.out.1.bel).2.2.2.1).mono ?_; rintro e w2 ⟨rfl, ⟨V2, E2, k2, f2⟩, o2, b2, u2⟩; have A2 : Hid (HK (w.heap.size + 1) (w.alloc (gBox g)) w2 (w.heap.size + 1) V2 E2 (0 + g.ls.length) (0 + 2) (0 + 1) (0 + g.ps.length) ∧ SameG g x ∧ GX w2 x ∧ UB w2 w1.heap.size N) := ⟨k2, A1.out.2.1, A1.out.2.2.oth o2, u2⟩; clear k2 f2 o2 b2 u2)
    | (go_at_call 23; refine (hk_lists A2.out.1 fa fc L (by have := HLL.out.1; omega) (fun wr hb => (B0.out wr (A2.out.1.bel.trans hb)).2.2.2.2) (fun l hl => Nat.le_trans (HLL.out.2 l hl) (by omega))).mono ?_; rintro e w3 ⟨ma, mc, rfl, ⟨V3, E3, k3⟩, l3, o3, b3⟩; have A3 : Hid (FK g x w V3 E3 (0 + g.ls.length + L.length) w1.heap.size ma N L (w3.alloc (gBox x)) ∧ (w3.alloc (gBox x)).heap[w3.heap.size]? = some (gBox x)) := ⟨FK.later ⟨(B0.out w3 k3.bel).1, (B0.out w3 k3.bel).2.1, k3, A2.out.2.1, A2.out.2.2.1.oth o3, A2.out.2.2.2.oth o3, l3⟩ (below_alloc _ _), heap_alloc_new _ _⟩; clear k3 l3 o3 b3)
    | (go_at_call 30; refine (CN.out x _ _ _ _ _ _ A3.out.1).mono ?_; rintro e w4 ⟨rfl, b4⟩; have A4 : Hid (FK g x w V3 E3 (0 + g.ls.length + L.length) w1.heap.size ma N L w4 ∧ w4.heap[w3.heap.size]? = some (gBox x)) := ⟨A3.out.1.later b4, box_on A3.out.2 b4⟩; clear b4; obtain ⟨y0, y1, y2, y3, y4⟩ := gb_cells A4.out.2)
    | (go_at_call 31; refine (CF.out x _ _ _ _ _ mc _ A4.out.1).mono ?_; rintro e w5 ⟨rfl, b5⟩; have A5 : Hid (FK g x w V3 E3 (0 + g.ls.length + L.length) w1.heap.size ma N L w5) := A4.out.1.later b5; clear b5 y0 y1 y2 y3 y4; obtain ⟨y0, y1, y2, y3, y4⟩ := gb_cells A5.out.box)
    | (go_at_call 11; refine (MY.out w5 A5.out.bel).mono ?_; rintro e w6 ⟨rfl, b6⟩; have A6 : Hid (FK g x w V3 E3 (0 + g.ls.length + L.length) w1.heap.size ma N L w6) := A5.out.later b6; clear b6 y0 y1 y2 y3 y4)
    | (go_at_call 12; refine (gintactL _ V3 tyG E3 w6 A6.out.hk.inv A6.out.hk.st (by have := A6.out.hk.l1; have := HLL.out.1; omega) (by have := A6.out.hk.l2; omega) (by have := A6.out.hk.l3; omega) (by have := A6.out.hk.l4; have := t8; omega)).mono ?_; rintro e w7 ⟨rfl, b7⟩; have A7 : Hid (FK g x w V3 E3 (0 + g.ls.length + L.length) w1.heap.size ma N L w7) := A6.out.later b7; clear b7)
    | (go_at_call 14; refine (works_S w7).mono ?_; rintro e w8 ⟨rfl, b8⟩; have A8 : Hid (FK g x w V3 E3 (0 + g.ls.length + L.length) w1.heap.size ma N L w8) := A7.out.later b8; clear b8; obtain ⟨y0, y1, y2, y3, y4⟩ := gb_cells A8.out.box)
    | (go_at_call 13; refine (num_S _ _).mono ?_; rintro e w7 ⟨rfl, rfl⟩)
    | (go_at_call 32; refine (RN.out w8 A8.out.bel).mono ?_; rintro e w9 ⟨rfl, b9⟩; have A9 : Hid (FK g x w V3 E3 (0 + g.ls.length + L.length) w1.heap.size ma N L w9) := A8.out.later b9; clear b9 y0 y1 y2 y3 y4; obtain ⟨y0, y1, y2, y3, y4⟩ := gb_cells A9.out.box)
    | (go_at_call 33; refine (RF.out w9 A9.out.bel).mono ?_; rintro e w10 ⟨rfl, b10⟩; have A10 : Hid (Below w.heap.size w w10) := A9.out.bel.trans (b10.mono A9.out.bel.size); clear b10 y0 y1 y2 y3 y4))
    go_ret
    exact ⟨rfl, A10.out⟩
  · have t1 : (er != 0) = true := by simpa using h0
    have t2 : (er == er) = true := by simp
    rw [chkNU_bad g N h0] at CN
    rw [chkFU_bad g N L h0] at CF
    clear h hN hL hll h0
    go_enter Tryz.func5, Tryz.ntmps5
    go_wp2_with (first
    | (go_at_call 6; refine (hg_gram H0.out (by omega) (by omega) (by omega) g (GAt.fine (B0.out _ (H0.out.bel)).2.2.1) (fun wr hb => (B0.out wr (H0.out.bel.trans hb)).2.2.1.mono (by omega))).mono ?_; rintro e w1 ⟨x, rfl, hs, hx, ho⟩; obtain ⟨V1, E1, h1⟩ := ho.ex; have A1 : Hid (HK (w.heap.size + 1) (w.alloc (gBox g)) w1 (w.heap.size + 1) V1 E1 (0 + g.ls.length) (0 + 2) 0 (0 + g.ps.length) ∧ SameG g x ∧ GX w1 x) := ⟨h1.hk, hs, hx⟩; clear hs hx ho h1 x0 x1 x2 x3 x4)
    | (go_at_call 22; refine (hk_boolF A1.out.1 (by omega) na nc N (by omega) (B0.out w1 A1.out.1.bel).2.2.2.1).mono ?_; rintro e w2 ⟨rfl, ⟨V2, E2, k2, f2⟩, o2, b2, u2⟩; have A2 : Hid (HK (w.heap.size + 1) (w.alloc (gBox g)) w2 (w.heap.size + 1) V2 E2 (0 + g.ls.length) (0 + 2) (0 + 1) (0 + g.ps.length) ∧ SameG g x ∧ GX w2 x ∧ UB w2 w1.heap.size N) := ⟨k2, A1.out.2.1, A1.out.2.2.oth o2, u2⟩; clear k2 f2 o2 b2 u2)
    | (go_at_call 23; refine (hk_lists A2.out.1 fa fc L (by have := HLL.out.1; omega) (fun wr hb => (B0.out wr (A2.out.1.bel.trans hb)).2.2.2.2) (fun l hl => Nat.le_trans (HLL.out.2 l hl) (by omega))).mono ?_; rintro e w3 ⟨ma, mc, rfl, ⟨V3, E3, k3⟩, l3, o3, b3⟩; have A3 : Hid (FK g x w V3 E3 (0 + g.ls.length + L.length) w1.heap.size ma N L (w3.alloc (gBox x)) ∧ (w3.alloc (gBox x)).heap[w3.heap.size]? = some (gBox x)) := ⟨FK.later ⟨(B0.out w3 k3.bel).1, (B0.out w3 k3.bel).2.1, k3, A2.out.2.1, A2.out.2.2.1.oth o3, A2.out.2.2.2.oth o3, l3⟩ (below_alloc _ _), heap_alloc_new _ _⟩; clear k3 l3 o3 b3)
    | (go_at_call 30; refine (CN.out x _ _ _ _ _ _ A3.out.1).mono ?_; rintro e w4 ⟨rfl, b4⟩; have A4 : Hid (FK g x w V3 E3 (0 + g.ls.length + L.length) w1.heap.size ma N L w4 ∧ w4.heap[w3.heap.size]? = some (gBox x)) := ⟨A3.out.1.later b4, box_on A3.out.2 b4⟩; clear b4; obtain ⟨y0, y1, y2, y3, y4⟩ := gb_cells A4.out.2)
    | (go_at_call 31; refine (CF.out x _ _ _ _ _ mc _ A4.out.1).mono ?_; rintro e w5 ⟨rfl, b5⟩; have A5 : Hid (FK g x w V3 E3 (0 + g.ls.length + L.length) w1.heap.size ma N L w5) := A4.out.1.later b5; clear b5 y0 y1 y2 y3 y4; obtain ⟨y0, y1, y2, y3, y4⟩ := gb_cells A5.out.box)
    | (go_at_call 11; refine (MY.out w5 A5.out.bel).mono ?_; rintro e w6 ⟨rfl, b6⟩; have A6 : Hid (FK g x w V3 E3 (0 + g.ls.length + L.length) w1.heap.size ma N L w6) := A5.out.later b6; clear b6 y0 y1 y2 y3 y4)
    | (go_at_call 12; refine (gintactL _ V3 tyG E3 w6 A6.out.hk.inv A6.out.hk.st (by have := A6.out.hk.l1; have := HLL.out.1; omega) (by have := A6.out.hk.l2; omega) (by have := A6.out.hk.l3; omega) (by have := A6.out.hk.l4; have := t8; omega)).mono ?_; rintro e w7 ⟨rfl, b7⟩; have A7 : Hid (FK g x w V3 E3 (0 + g.ls.length + L.length) w1.heap.size ma N L w7) := A6.out.later b7; clear b7)
    | (go_at_call 14; refine (works_S w7).mono ?_; rintro e w8 ⟨rfl, b8⟩; have A8 : Hid (FK g x w V3 E3 (0 + g.ls.length + L.length) w1.heap.size ma N L w8) := A7.out.later b8; clear b8; obtain ⟨y0, y1, y2, y3, y4⟩ := gb_cells A8.out.box)
    | (go_at_call 13; refine (num_S _ _).mono ?_; rintro e w7 ⟨rfl, rfl⟩))
    go_ret
    exact ⟨rfl, A8.out.bel⟩
end Go.Proofs.YtboabidokkghbaaGreat
