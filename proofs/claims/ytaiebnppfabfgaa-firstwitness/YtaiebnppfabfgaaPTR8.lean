import Derived.Test.YtaiebnppfabfgaaPTR7
namespace Go.Proofs.Ytaiebnppfabfgaa
set_option linter.unusedVariables false
set_option maxRecDepth 100000
set_option maxHeartbeats 16000000
open Go.RowKit
theorem circular_R (g : GV) (w : World) (h : GAt 140737488355328 w g) (at_ : Int) (hE : checkG g (checkF g.ts g.ns) = (0, at_)) (hcap : ∀ p ∈ g.ps, p.right.length <= p.rc) :
  Calls Try.prog 26 #[g.val] w fun e w' => NumO w (fun _ => True) 0 e w' := by
 have ok : OkC g := OkC.of (by rw [hE])
 have X0 : Hid ((w.alloc (gBox g)).heap[w.heap.size]? = some (gBox g)) := heap_alloc_new _ _
 have MY : Hid (Calls Try.prog 8 #[g.val] (w.alloc (gBox g)) fun e w' => e = .returned (.int .i64 0) /\ Below (w.alloc (gBox g)).heap.size (w.alloc (gBox g)) w') := by
  have := refmay_G g _ (h.later (below_alloc w (gBox g)))
  rwa [hE] at this
 have HFG : Hid (∀ w', Below w.heap.size w w' -> FG w' g) := fun w' hb => ok.fg (h.later hb)
 obtain ⟨x0, x1, x2, x3, x4⟩ := gb_cells X0.out
 have hnl := ok.nl.2
 have t1 : ((0 : Int) != 0) = false := by decide
 have HCP : Hid (∀ p ∈ g.ps, p.right.length <= p.rc) := hcap
 clear h hE ok hcap
 go_enter Try.func26, Try.ntmps26
 go_wp2_with (first
  | (go_at_call 8; refine MY.out.mono ?_; rintro e w2 ⟨rfl, b2⟩; have B2 : Hid (Below w.heap.size w w2 /\ w2.heap[w.heap.size]? = some (gBox g)) := ⟨(below_alloc w _).trans (b2.mono (below_alloc w _).size), (b2.block _ (lt_of_block X0.out)).trans X0.out⟩; clear b2 x0 x1 x2 x3 x4; obtain ⟨x0, x1, x2, x3, x4⟩ := gb_cells B2.out.2)
  | (go_at_call 47; refine (circles_R g _ (HFG.out _ B2.out.1) HCP.out).mono ?_; rintro e w3 ⟨mb, M, rfl, m3, bb3, l3, b3⟩; have B3 : Hid (M.length = g.ns.length /\ BB w3 mb M /\ Below w.heap.size w w3) := ⟨m3, bb3, B2.out.1.trans (b3.mono B2.out.1.size)⟩; clear m3 bb3 l3 b3 x0 x1 x2 x3 x4))
 go_loopw [6, 7] (fun v i wr => ∃ k : Nat, k <= g.ns.length /\ i = .int .i64 k /\ IL wr v (offU true M k) /\ (∀ j, v.ownBlock = some j -> w3.heap.size <= j) /\ Below w3.heap.size w3 wr) (fun _ i _ => g.ns.length - (intOf i).toNat)
 case atStart => exact ⟨0, Nat.zero_le _, rfl, IL.nil _, (fun j hj => by simp [Value.ownBlock] at hj), Below.refl _ _⟩
 case round =>
  obtain ⟨k, hk, rfl, hI, hv, hB⟩ := hrel
  obtain ⟨va, vc, rfl⟩ := il_len hI
  have HB : Hid (Below w3.heap.size w3 wr) := hB
  by_cases hlt : k < g.ns.length
  ·have klt : (k : Int) < (g.ns.length : Int) := by omega
   have cm := (B3.out.2.1.later hB).cell (i := k) (by rw [B3.out.1]; exact hlt)
   have hst : Hid _ := offU_succ true M k
   have hrl := offU_len true M k
   generalize hR : offU true M k = R at *
   obtain ⟨mv, hmv⟩ : ∃ mv, M.getD k false = mv := ⟨_, rfl⟩
   rw [hmv] at cm
   have HMV : Hid (M.getD k false = mv) := hmv
   clear hmv
   cases mv
   ·have E : Hid (IL wr (.slice va R.length vc) (offU true M (k + 1)) /\ (∀ j, (Value.slice va R.length vc).ownBlock = some j -> w3.heap.size <= j) /\ Below w3.heap.size w3 wr) := ⟨by rw [hst.out, if_neg (by rw [HMV.out]; decide)]; exact hI, hv, hB⟩
    clear hst hI hv hB hrl
    go_wp2
    go_roundw
    case rel => exact ⟨k + 1, by omega, by go_num, E.out⟩
    case measure => simp [intOf]; omega
   ·have HIA : Hid (IL (wr.alloc (.cells #[.int .i64 k] 3)) (.slice va R.length vc) R) := hI.later (below_alloc _ _)
    have HV : Hid (∀ j, (Value.slice va R.length vc).ownBlock = some j -> w3.heap.size <= j) := hv
    have HLT : Hid (R.length <= 2000000) := by show _ <= _; omega
    have E : Hid (offU true M (k + 1) = R ++ [(k : Int)]) := by show _ = _; rw [hst.out, if_pos HMV.out]
    clear hst hI hv hB hrl
    go_wp2_with (at_builtin; refine wpList_il_append rfl _ _ rfl (.slice va R.length vc) R rfl HIA.out _ 1 k rfl (by simp) HLT.out ?_; intro a4 n4 c4 w4 ho4 hg4)
    obtain ⟨q1, q2⟩ := grew_belowI (HB.out.alloc HB.out.size _) HV.out hg4
    have R4 : Hid (IL w4 (.slice a4 n4 c4) (offU true M (k + 1)) /\ (∀ j, (Value.slice a4 n4 c4).ownBlock = some j -> w3.heap.size <= j) /\ Below w3.heap.size w3 w4) := ⟨by rw [E.out]; exact ho4, q2, q1⟩
    clear q1 q2 ho4 hg4
    go_roundw
    case rel => exact ⟨k + 1, by omega, by go_num, R4.out⟩
    case measure => simp [intOf]; omega
  ·obtain rfl : k = g.ns.length := by omega
   have R : Hid (InRow wr va (offU true M g.ns.length) /\ Below w.heap.size w wr) := ⟨IL.inrow hI, B3.out.2.2.trans (hB.mono B3.out.2.2.size)⟩
   clear hI hv hB
   go_wp2
   refine bodyPost_ret (results_tmp2 rfl _ _ _) rfl ?_
   exact ⟨va, vc, _, rfl, trivial, R.out⟩
theorem two_cells {w : World} {b : Nat} {v0 v1 : Value} {t : TypeId} (h : w.heap[b]? = some (.cells #[v0, v1] t (0, 0))) : w.cell? ⟨b, 0, none⟩ = some v0 /\ w.cell? ⟨b, 1, none⟩ = some v1 /\ w.frozen? ⟨b, 0, none⟩ = false /\ w.frozen? ⟨b, 1, none⟩ = false :=
 ⟨(cellq_any h).trans rfl, (cellq_any h).trans rfl, by simp [World.frozen?, h], by simp [World.frozen?, h]⟩
theorem below_set2 {B : Nat} {a w : World} (h : Below B a w) {b : Nat} (hb : B <= b) (i j : Nat) (u v : Value) : Below B a ((w.setCell ⟨b, i, none⟩ u).setCell ⟨b, j, none⟩ v) := (h.setCell (p := ⟨b, i, none⟩) hb u).setCell (p := ⟨b, j, none⟩) hb v
def WellO (w : World) (e : Ending) (w' : World) : Prop := ∃ k a b, e = .returned (.tuple #[.int .i64 k, .agg #[.int .i64 a, .int .i64 b]]) /\ Below w.heap.size w w'
theorem well_R (g : GV) (w : World) (h : GAt 140737488355328 w g) (at_ : Int) (hE : checkG g (checkF g.ts g.ns) = (0, at_)) (hcap : ∀ p ∈ g.ps, p.right.length <= p.rc) :
  Calls Try.prog 11 #[g.val] w fun e w' => WellO w e w' := by
 have X0 : Hid ((w.alloc (gBox g)).heap[w.heap.size]? = some (gBox g)) := heap_alloc_new _ _
 have HB : Hid (∀ w', Below w.heap.size w w' -> Calls Try.prog 23 #[g.val] w' fun e w'' => NumO w' (fun _ => True) 0 e w'') := fun w' hb => (barren_R g w' (h.later hb) at_ hE).mono (fun e w'' ⟨a, c, l, q, _, r⟩ => ⟨a, c, l, q, trivial, r⟩)
 have HU : Hid (∀ w', Below w.heap.size w w' -> Calls Try.prog 25 #[g.val] w' fun e w'' => SymO w' (fun _ => True) 0 e w'') := fun w' hb => (unreached_R g w' (h.later hb) at_ hE).mono (fun e w'' ⟨a, c, l, q, _, r⟩ => ⟨a, c, l, q, trivial, r⟩)
 have HC : Hid (∀ w', Below w.heap.size w w' -> Calls Try.prog 26 #[g.val] w' fun e w'' => NumO w' (fun _ => True) 0 e w'') := fun w' hb => circular_R g w' (h.later hb) at_ hE hcap
 obtain ⟨x0, x1, x2, x3, x4⟩ := gb_cells X0.out
 have t1 : ((0 : Int) != 0) = false := by decide
 have B1 : Hid (Below w.heap.size w ((w.alloc (gBox g)).alloc (.cells #[.int .i64 0, .int .i64 0] 43))) := (below_alloc w _).trans ((below_alloc (w.alloc (gBox g)) _).mono (below_alloc w _).size)
 have X1 : Hid (((w.alloc (gBox g)).alloc (.cells #[.int .i64 0, .int .i64 0] 43)).heap[w.heap.size]? = some (gBox g)) := ((below_alloc (w.alloc (gBox g)) _).block _ (by simp)).trans X0.out
 have X2 : Hid (((w.alloc (gBox g)).alloc (.cells #[.int .i64 0, .int .i64 0] 43)).heap[w.heap.size + 1]? = some (.cells #[.int .i64 0, .int .i64 0] 43 (0, 0))) := by
  show _ = _
  have := heap_alloc_new (w.alloc (gBox g)) (.cells #[.int .i64 0, .int .i64 0] 43)
  rwa [show (w.alloc (gBox g)).heap.size = w.heap.size + 1 by simp] at this
 clear x0 x1 x2 x3 x4
 obtain ⟨x0, x1, x2, x3, x4⟩ := gb_cells X1.out
 clear h hE hcap X0
 go_enter Try.func11, Try.ntmps11
 go_wp2_with (go_at_call 23; refine (HB.out _ B1.out).mono ?_)
 rintro e w2 ⟨a2, c2, l2, rfl, -, r2, b2⟩
 have B2 : Hid (Below w.heap.size w w2 /\ w2.heap[w.heap.size]? = some (gBox g) /\ w2.heap[w.heap.size + 1]? = some (.cells #[.int .i64 0, .int .i64 0] 43 (0, 0))) := ⟨B1.out.trans (b2.mono B1.out.size), (b2.block _ (lt_of_block X1.out)).trans X1.out, (b2.block _ (lt_of_block X2.out)).trans X2.out⟩
 clear b2 x0 x1 x2 x3 x4
 obtain ⟨x0, x1, x2, x3, x4⟩ := gb_cells B2.out.2.1
 rcases l2 with _ | ⟨y, ys⟩
 ·clear r2
  go_wp2_with (go_at_call 25; refine (HU.out _ B2.out.1).mono ?_)
  rintro e w3 ⟨a3, c3, l3, rfl, -, r3, b3⟩
  have B3 : Hid (Below w.heap.size w w3 /\ w3.heap[w.heap.size]? = some (gBox g) /\ w3.heap[w.heap.size + 1]? = some (.cells #[.int .i64 0, .int .i64 0] 43 (0, 0))) := ⟨B2.out.1.trans (b3.mono B2.out.1.size), (b3.block _ (lt_of_block B2.out.2.1)).trans B2.out.2.1, (b3.block _ (lt_of_block B2.out.2.2)).trans B2.out.2.2⟩
  clear b3 x0 x1 x2 x3 x4
  obtain ⟨x0, x1, x2, x3, x4⟩ := gb_cells B3.out.2.1
  rcases l3 with _ | ⟨y, ys⟩
  ·clear r3
   go_wp2_with (go_at_call 26; refine (HC.out _ B3.out.1).mono ?_)
   rintro e w4 ⟨a4, c4, l4, rfl, -, r4, b4⟩
   have B4 : Hid (Below w.heap.size w w4 /\ w4.heap[w.heap.size + 1]? = some (.cells #[.int .i64 0, .int .i64 0] 43 (0, 0))) := ⟨B3.out.1.trans (b4.mono B3.out.1.size), (b4.block _ (lt_of_block B3.out.2.2)).trans B3.out.2.2⟩
   clear b4 x0 x1 x2 x3 x4
   rcases l4 with _ | ⟨y, ys⟩
   ·obtain ⟨z0, z1, f0, f1⟩ := two_cells B4.out.2
    clear r4
    go_wp2
    refine bodyPost_ret (v := .tuple #[.int .i64 0, .agg #[.int .i64 0, .int .i64 0]]) (by simp [results, Try.results11, go_sem, z0, z1]) rfl ?_
    exact ⟨_, _, _, rfl, below_set2 B4.out.1 (by omega) _ _ _ _⟩
   ·obtain ⟨z0, z1, f0, f1⟩ := two_cells B4.out.2
    obtain ⟨b, o, rfl, -, hc⟩ := r4 (by simp)
    have c0 := hc 0 (by simp)
    have ylt : (0 : Int) < ((y :: ys).length : Int) := by rw [List.length_cons]; omega
    generalize (y :: ys).length = yn at *
    simp only [List.getD_cons_zero, Nat.add_zero] at c0
    clear hc
    go_wp2_with (go_at_call 24; refine (n7_R y w4).mono ?_; rintro e w5 ⟨rfl, b5⟩; have B5 : Hid (Below w.heap.size w w5 /\ w5.heap[w.heap.size + 1]? = some (.cells #[.int .i64 0, .int .i64 0] 43 (0, 0))) := ⟨B4.out.1.trans (b5.mono B4.out.1.size), (b5.block _ (lt_of_block B4.out.2)).trans B4.out.2⟩; clear z0 z1 f0 f1 b5; obtain ⟨z0, z1, f0, f1⟩ := two_cells B5.out.2)
    refine bodyPost_ret (v := .tuple #[.int .i64 73, .agg #[.int .i64 2, .int .i64 y]]) (by simp [results, Try.results11, go_sem, z0, z1]) rfl ?_
    exact ⟨_, _, _, rfl, below_set2 B5.out.1 (by omega) _ _ _ _⟩
  ·obtain ⟨z0, z1, f0, f1⟩ := two_cells B3.out.2.2
   obtain ⟨b, o, rfl, -, hc⟩ := r3 (by simp)
   obtain ⟨c0, c1⟩ := hc 0 (by simp)
   obtain ⟨y1, y2⟩ := y
   have ylt : (0 : Int) < (((y1, y2) :: ys).length : Int) := by rw [List.length_cons]; omega
   generalize ((y1, y2) :: ys).length = yn at *
   simp only [List.getD_cons_zero, Nat.zero_mul, Nat.add_zero] at c0 c1
   clear hc
   go_wp2
   go_region
   go_wp2
   refine bodyPost_ret (v := .tuple #[.int .i64 72, .agg #[.int .i64 y1, .int .i64 y2]]) (by simp [results, Try.results11, go_sem, z0, z1]) rfl ?_
   exact ⟨_, _, _, rfl, (below_set2 B3.out.1 (by omega) _ _ _ _).drew⟩
 ·obtain ⟨z0, z1, f0, f1⟩ := two_cells B2.out.2.2
  obtain ⟨b, o, rfl, -, hc⟩ := r2 (by simp)
  have c0 := hc 0 (by simp)
  have ylt : (0 : Int) < ((y :: ys).length : Int) := by rw [List.length_cons]; omega
  generalize (y :: ys).length = yn at *
  simp only [List.getD_cons_zero, Nat.add_zero] at c0
  clear hc
  go_wp2_with (go_at_call 24; refine (n7_R y w2).mono ?_; rintro e w5 ⟨rfl, b5⟩; have B5 : Hid (Below w.heap.size w w5 /\ w5.heap[w.heap.size + 1]? = some (.cells #[.int .i64 0, .int .i64 0] 43 (0, 0))) := ⟨B2.out.1.trans (b5.mono B2.out.1.size), (b5.block _ (lt_of_block B2.out.2.2)).trans B2.out.2.2⟩; clear z0 z1 f0 f1 b5; obtain ⟨z0, z1, f0, f1⟩ := two_cells B5.out.2)
  refine bodyPost_ret (v := .tuple #[.int .i64 71, .agg #[.int .i64 2, .int .i64 y]]) (by simp [results, Try.results11, go_sem, z0, z1]) rfl ?_
  exact ⟨_, _, _, rfl, below_set2 B5.out.1 (by omega) _ _ _ _⟩
end Go.Proofs.Ytaiebnppfabfgaa
