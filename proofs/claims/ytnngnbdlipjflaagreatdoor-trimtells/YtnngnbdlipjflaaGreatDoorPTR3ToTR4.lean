import Derived.Test.YtnngnbdlipjflaaGreatDoorPTR1ToTR2
import Derived.Test.YtnngnbdlipjflaaGreatDoorPGCheckR
namespace Go.Proofs.YtnngnbdlipjflaaGreatDoor
set_option linter.unusedVariables false
set_option maxRecDepth 100000
set_option maxHeartbeats 16000000
open Go.RowKit
theorem fruit_R (g : GV) (w : World) (hfg : FG w g) :
  Calls Tryz.prog 34 #[g.val] w fun e w' => ∃ b M, e = .returned (.slice (some ⟨b, 0, none⟩) g.ns.length g.ns.length) /\ MLst g.ps g.ns.length true M /\ BB w' b M /\ w.heap.size <= b /\ Below w.heap.size w w' := by
 have X0 : Hid ((w.alloc (gBox g)).heap[w.heap.size]? = some (gBox g)) := heap_alloc_new _ _
 obtain ⟨x0, x1, x2, x3, x4⟩ := gb_cells X0.out
 have LC : Hid (Calls Tryz.prog 77 #[g.val, .bool true] (w.alloc (gBox g)) fun e w' => ∃ b M, e = .returned (.slice (some ⟨b, 0, none⟩) g.ns.length g.ns.length) /\ MLst g.ps g.ns.length true M /\ BB w' b M /\ (w.alloc (gBox g)).heap.size <= b /\ Below (w.alloc (gBox g)).heap.size (w.alloc (gBox g)) w') := least_R g true _ (hfg.later (below_alloc _ _))
 clear hfg
 go_enter Tryz.func34, Tryz.ntmps34
 go_wp2_with (go_at_call 77; refine LC.out.mono ?_; rintro e w2 ⟨b, M, rfl, m2, bb2, l2, b2⟩; have B2 : Hid (MLst g.ps g.ns.length true M /\ BB w2 b M /\ w.heap.size <= b /\ Below w.heap.size w w2) := ⟨m2, bb2, Nat.le_trans (below_alloc w (gBox g)).size l2, (below_alloc w _).trans (b2.mono (below_alloc w _).size)⟩; clear m2 bb2 l2 b2)
 go_ret
 exact ⟨b, M, rfl, B2.out⟩
theorem null7_R (g : GV) (w : World) (hfg : FG w g) :
  Calls Tryz.prog 83 #[g.val] w fun e w' => ∃ b M, e = .returned (.slice (some ⟨b, 0, none⟩) g.ns.length g.ns.length) /\ MLst g.ps g.ns.length false M /\ BB w' b M /\ w.heap.size <= b /\ Below w.heap.size w w' := by
 have X0 : Hid ((w.alloc (gBox g)).heap[w.heap.size]? = some (gBox g)) := heap_alloc_new _ _
 obtain ⟨x0, x1, x2, x3, x4⟩ := gb_cells X0.out
 have LC : Hid (Calls Tryz.prog 77 #[g.val, .bool false] (w.alloc (gBox g)) fun e w' => ∃ b M, e = .returned (.slice (some ⟨b, 0, none⟩) g.ns.length g.ns.length) /\ MLst g.ps g.ns.length false M /\ BB w' b M /\ (w.alloc (gBox g)).heap.size <= b /\ Below (w.alloc (gBox g)).heap.size (w.alloc (gBox g)) w') := least_R g false _ (hfg.later (below_alloc _ _))
 clear hfg
 go_enter Tryz.func83, Tryz.ntmps83
 go_wp2_with (go_at_call 77; refine LC.out.mono ?_; rintro e w2 ⟨b, M, rfl, m2, bb2, l2, b2⟩; have B2 : Hid (MLst g.ps g.ns.length false M /\ BB w2 b M /\ w.heap.size <= b /\ Below w.heap.size w w2) := ⟨m2, bb2, Nat.le_trans (below_alloc w (gBox g)).size l2, (below_alloc w _).trans (b2.mono (below_alloc w _).size)⟩; clear m2 bb2 l2 b2)
 go_ret
 exact ⟨b, M, rfl, B2.out⟩
def offU (v : Bool) (M : List Bool) (k : Nat) : List Int := ((List.range k).filter fun i => decide (M.getD i false = v)).map fun (i : Nat) => (i : Int)
theorem offU_succ (v : Bool) (M : List Bool) (k : Nat) : offU v M (k + 1) = if M.getD k false = v then offU v M k ++ [(k : Int)] else offU v M k := by
 unfold offU
 rw [List.range_succ, List.filter_append, List.map_append]
 by_cases h : M.getD k false = v
 ·have e : List.filter (fun i => decide (M.getD i false = v)) [k] = [k] := by rw [List.filter_cons, if_pos (decide_eq_true h)]; rfl
  rw [if_pos h, e]; rfl
 ·have e : List.filter (fun i => decide (M.getD i false = v)) [k] = [] := by rw [List.filter_cons, if_neg (by rw [decide_eq_false h]; decide)]; rfl
  rw [if_neg h, e]; simp
theorem offU_len (v : Bool) (M : List Bool) (k : Nat) : (offU v M k).length <= k := by
 unfold offU
 rw [List.length_map]
 exact Nat.le_trans (List.length_filter_le _ _) (by simp)
def NumO (w : World) (P : List Int -> Prop) (E : Int) (e : Ending) (w' : World) : Prop := ∃ a c l, e = .returned (.tuple #[.slice a l.length c, .int .i64 E]) /\ P l /\ InRow w' a l /\ Below w.heap.size w w'
theorem barren_R (g : GV) (w : World) (h : GAt 140737488355328 w g) (at_ : Int) (hE : checkG g (checkF g.ts g.ns) = (0, at_)) :
  Calls Tryz.prog 9 #[g.val] w fun e w' => NumO w (fun l => ∃ M, MLst g.ps g.ns.length true M /\ l = offU false M g.ns.length) 0 e w' := by
 have ok : OkC g := OkC.of (by rw [hE])
 have X0 : Hid ((w.alloc (gBox g)).heap[w.heap.size]? = some (gBox g)) := heap_alloc_new _ _
 have MY : Hid (Calls Tryz.prog 26 #[g.val] (w.alloc (gBox g)) fun e w' => e = .returned (.int .i64 0) /\ Below (w.alloc (gBox g)).heap.size (w.alloc (gBox g)) w') := by
  have := refmay_G g _ (h.later (below_alloc w (gBox g)))
  rwa [hE] at this
 have HFG : Hid (∀ w', Below w.heap.size w w' -> FG w' g) := fun w' hb => ok.fg (h.later hb)
 obtain ⟨x0, x1, x2, x3, x4⟩ := gb_cells X0.out
 have hnl := ok.nl.2
 have t1 : ((0 : Int) != 0) = false := by decide
 clear h hE ok
 go_enter Tryz.func9, Tryz.ntmps9
 go_wp2_with (first
  | (go_at_call 26; refine MY.out.mono ?_; rintro e w2 ⟨rfl, b2⟩; have B2 : Hid (Below w.heap.size w w2 /\ w2.heap[w.heap.size]? = some (gBox g)) := ⟨(below_alloc w _).trans (b2.mono (below_alloc w _).size), (b2.block _ (lt_of_block X0.out)).trans X0.out⟩; clear b2 x0 x1 x2 x3 x4; obtain ⟨x0, x1, x2, x3, x4⟩ := gb_cells B2.out.2)
  | (go_at_call 34; refine (fruit_R g _ (HFG.out _ B2.out.1)).mono ?_; rintro e w3 ⟨mb, M, rfl, m3, bb3, l3, b3⟩; have B3 : Hid (MLst g.ps g.ns.length true M /\ BB w3 mb M /\ Below w.heap.size w w3) := ⟨m3, bb3, B2.out.1.trans (b3.mono B2.out.1.size)⟩; clear m3 bb3 l3 b3 x0 x1 x2 x3 x4))
 go_loopw [6, 7] (fun v i wr => ∃ k : Nat, k <= g.ns.length /\ i = .int .i64 k /\ IL wr v (offU false M k) /\ (∀ j, v.ownBlock = some j -> w3.heap.size <= j) /\ Below w3.heap.size w3 wr) (fun _ i _ => g.ns.length - (intOf i).toNat)
 case atStart => exact ⟨0, Nat.zero_le _, rfl, IL.nil _, (fun j hj => by simp [Value.ownBlock] at hj), Below.refl _ _⟩
 case round =>
  obtain ⟨k, hk, rfl, hI, hv, hB⟩ := hrel
  obtain ⟨va, vc, rfl⟩ := il_len hI
  have HB : Hid (Below w3.heap.size w3 wr) := hB
  by_cases hlt : k < g.ns.length
  ·have klt : (k : Int) < (g.ns.length : Int) := by omega
   have cm := (B3.out.2.1.later hB).cell (i := k) (by rw [B3.out.1.len]; exact hlt)
   have hst : Hid _ := offU_succ false M k
   have hrl := offU_len false M k
   generalize hR : offU false M k = R at *
   obtain ⟨mv, hmv⟩ : ∃ mv, M.getD k false = mv := ⟨_, rfl⟩
   rw [hmv] at cm
   have HMV : Hid (M.getD k false = mv) := hmv
   clear hmv
   cases mv
   ·have HIA : Hid (IL (wr.alloc (.cells #[.int .i64 k] 3)) (.slice va R.length vc) R) := hI.later (below_alloc _ _)
    have HV : Hid (∀ j, (Value.slice va R.length vc).ownBlock = some j -> w3.heap.size <= j) := hv
    have HLT : Hid (R.length <= 2000000) := by show _ <= _; omega
    have E : Hid (offU false M (k + 1) = R ++ [(k : Int)]) := by show _ = _; rw [hst.out, if_pos HMV.out]
    clear hst hI hv hB hrl
    go_wp2_with (at_builtin; refine wpList_il_append rfl _ _ rfl (.slice va R.length vc) R rfl HIA.out _ 1 k rfl (by simp) HLT.out ?_; intro a4 n4 c4 w4 ho4 hg4)
    obtain ⟨q1, q2⟩ := grew_belowI (HB.out.alloc HB.out.size _) HV.out hg4
    have R4 : Hid (IL w4 (.slice a4 n4 c4) (offU false M (k + 1)) /\ (∀ j, (Value.slice a4 n4 c4).ownBlock = some j -> w3.heap.size <= j) /\ Below w3.heap.size w3 w4) := ⟨by rw [E.out]; exact ho4, q2, q1⟩
    clear q1 q2 ho4 hg4
    go_roundw
    case rel => exact ⟨k + 1, by omega, by go_num, R4.out⟩
    case measure => simp [intOf]; omega
   ·have E : Hid (IL wr (.slice va R.length vc) (offU false M (k + 1)) /\ (∀ j, (Value.slice va R.length vc).ownBlock = some j -> w3.heap.size <= j) /\ Below w3.heap.size w3 wr) := ⟨by rw [hst.out, if_neg (by rw [HMV.out]; decide)]; exact hI, hv, hB⟩
    clear hst hI hv hB hrl
    go_wp2
    go_roundw
    case rel => exact ⟨k + 1, by omega, by go_num, E.out⟩
    case measure => simp [intOf]; omega
  ·obtain rfl : k = g.ns.length := by omega
   have R : Hid (InRow wr va (offU false M g.ns.length) /\ Below w.heap.size w wr) := ⟨IL.inrow hI, B3.out.2.2.trans (hB.mono B3.out.2.2.size)⟩
   clear hI hv hB
   go_wp2
   refine bodyPost_ret (results_tmp2 rfl _ _ _) rfl ?_
   exact ⟨va, vc, _, rfl, ⟨M, B3.out.1, rfl⟩, R.out⟩
def ClR (g : GV) (Ct Cn : Nat -> Prop) : Prop := Cn g.start.toNat /\ ∀ p ∈ g.ps, Cn p.left.toNat -> ∀ s ∈ p.right, (s.1 = 1 -> Ct s.2.toNat) /\ (s.1 = 2 -> Cn s.2.toNat)
def InM (T N : List Bool) (s : Int × Int) : Prop := (s.1 = 1 -> T.getD s.2.toNat false = true) /\ (s.1 = 2 -> N.getD s.2.toNat false = true)
structure RLst (g : GV) (T N : List Bool) : Prop where
 tl : T.length = g.ts.length
 nl : N.length = g.ns.length
 st : N.getD g.start.toNat false = true
 clo : ∀ p ∈ g.ps, N.getD p.left.toNat false = true -> ∀ s ∈ p.right, InM T N s
 lst : ∀ Ct Cn, ClR g Ct Cn -> (∀ i, N.getD i false = true -> Cn i) /\ (∀ i, T.getD i false = true -> Ct i)
structure RW (g : GV) (w : World) (T N : List Bool) (wr : World) : Prop where
 tl : T.length = g.ts.length
 nl : N.length = g.ns.length
 st : N.getD g.start.toNat false = true
 lst : ∀ Ct Cn, ClR g Ct Cn -> (∀ i, N.getD i false = true -> Cn i) /\ (∀ i, T.getD i false = true -> Ct i)
 tb : BB wr (w.heap.size + 1) T
 nb : BB wr (w.heap.size + 1 + 1) N
 box : wr.heap[w.heap.size]? = some (gBox g)
 bel : Below w.heap.size w wr
theorem RW.any {g : GV} {w wr w' : World} {T N : List Bool} (h : RW g w T N wr) (hb : Below wr.heap.size wr w') : RW g w T N w' :=
 ⟨h.tl, h.nl, h.st, h.lst, h.tb.later hb, h.nb.later hb, (hb.block _ (lt_of_block h.box)).trans h.box, h.bel.trans (hb.mono h.bel.size)⟩
theorem set_true {M : List Bool} {i j : Nat} (h : M.getD j false = true) : (M.set i true).getD j false = true := by
 rw [getD_set_b]
 split
 ·rfl
 ·exact h
theorem set_self {M : List Bool} {i : Nat} (h : i < M.length) : (M.set i true).getD i false = true := by
 rw [getD_set_b, if_pos ⟨rfl, h⟩]
theorem RW.setT {g : GV} {w wr : World} {T N : List Bool} (h : RW g w T N wr) {p : PV} (hp : p ∈ g.ps) (hl : N.getD p.left.toNat false = true) {s : Int × Int} (hs : s ∈ p.right) (h1 : s.1 = 1) : RW g w (T.set s.2.toNat true) N (wr.setCell ⟨w.heap.size + 1, s.2.toNat, none⟩ (.bool true)) :=
 ⟨by rw [List.length_set]; exact h.tl, h.nl, h.st, fun Ct Cn hC => ⟨(h.lst Ct Cn hC).1, fun i hi => by
  rw [getD_set_b] at hi
  split at hi
  ·rename_i q
   rw [<- q.1]
   exact (hC.2 p hp ((h.lst Ct Cn hC).1 _ hl) s hs).1 h1
  ·exact (h.lst Ct Cn hC).2 i hi⟩, h.tb.set _ _, h.nb.kept (Below.heap_setCell _ _ _ _ (by show w.heap.size + 1 + 1 ≠ w.heap.size + 1; omega)), (Below.heap_setCell _ _ _ _ (by show w.heap.size ≠ w.heap.size + 1; omega)).trans h.box, h.bel.setCell (p := ⟨w.heap.size + 1, s.2.toNat, none⟩) (by show w.heap.size <= w.heap.size + 1; omega) _⟩
theorem RW.setN {g : GV} {w wr : World} {T N : List Bool} (h : RW g w T N wr) {p : PV} (hp : p ∈ g.ps) (hl : N.getD p.left.toNat false = true) {s : Int × Int} (hs : s ∈ p.right) (h1 : s.1 = 2) : RW g w T (N.set s.2.toNat true) (wr.setCell ⟨w.heap.size + 1 + 1, s.2.toNat, none⟩ (.bool true)) :=
 ⟨h.tl, by rw [List.length_set]; exact h.nl, set_true h.st, fun Ct Cn hC => ⟨fun i hi => by
  rw [getD_set_b] at hi
  split at hi
  ·rename_i q
   rw [<- q.1]
   exact (hC.2 p hp ((h.lst Ct Cn hC).1 _ hl) s hs).2 h1
  ·exact (h.lst Ct Cn hC).1 i hi, (h.lst Ct Cn hC).2⟩, h.tb.kept (Below.heap_setCell _ _ _ _ (by show w.heap.size + 1 ≠ w.heap.size + 1 + 1; omega)), h.nb.set _ _, (Below.heap_setCell _ _ _ _ (by show w.heap.size ≠ w.heap.size + 1 + 1; omega)).trans h.box, h.bel.setCell (p := ⟨w.heap.size + 1 + 1, s.2.toNat, none⟩) (by show w.heap.size <= w.heap.size + 1 + 1; omega) _⟩
theorem rep_no {n i : Nat} : (List.replicate n false).getD i false = false := by
 simp [List.getD, List.getElem?_replicate]; split <;> rfl
theorem RW.first (g : GV) (w : World) (m : Nat) (hm : g.start.toNat = m) (hl : m < g.ns.length) : RW g w (List.replicate g.ts.length false) ((List.replicate g.ns.length false).set m true) (((w.alloc (gBox g)).alloc (.cells (madeCells #[.bool false] g.ts.length) 4)).alloc (.cells ((madeCells #[.bool false] g.ns.length).setIfInBounds m (.bool true)) 4)) := by
 have b1 := below_alloc w (gBox g)
 have z1 : (w.alloc (gBox g)).heap.size = w.heap.size + 1 := by simp
 have X1 : (w.alloc (gBox g)).heap[w.heap.size]? = some (gBox g) := heap_alloc_new _ _
 generalize w.alloc (gBox g) = w1 at *
 have b2 := below_alloc w1 (.cells (madeCells #[.bool false] g.ts.length) 4)
 have z2 : (w1.alloc (.cells (madeCells #[.bool false] g.ts.length) 4)).heap.size = w.heap.size + 1 + 1 := by simp [z1]
 have X2 := BB.made w1 g.ts.length
 generalize w1.alloc (.cells (madeCells #[.bool false] g.ts.length) 4) = w2 at *
 have b3 := below_alloc w2 (.cells ((madeCells #[.bool false] g.ns.length).setIfInBounds m (.bool true)) 4)
 have X3 : BB (w2.alloc (.cells ((madeCells #[.bool false] g.ns.length).setIfInBounds m (.bool true)) 4)) w2.heap.size ((List.replicate g.ns.length false).set m true) := by
  unfold BB
  rw [heap_alloc_new, made_listF, List.setIfInBounds_toArray, List.map_set, List.map_replicate]
 generalize w2.alloc (.cells ((madeCells #[.bool false] g.ns.length).setIfInBounds m (.bool true)) 4) = w3 at *
 rw [z1] at X2 b2
 rw [z2] at X3 b3
 refine ⟨by simp, by simp, by rw [hm]; exact set_self (by simpa using hl), fun Ct Cn hC => ⟨fun i hi => ?_, fun i hi => ?_⟩, ?_, X3, ?_, ?_⟩
 ·rw [getD_set_b] at hi
  split at hi
  ·rename_i q
   rw [<- q.1, <- hm]
   exact hC.1
  ·rw [rep_no] at hi; cases hi
 ·rw [rep_no] at hi; cases hi
 ·exact X2.later (by rw [z2]; exact b3)
 ·exact (b3.block _ (by omega)).trans ((b2.block _ (by omega)).trans X1)
 ·exact (b1.trans (b2.mono (by omega))).trans (b3.mono (by omega))
theorem made_at {n i : Nat} (h : i < n) : (madeCells #[Value.bool false] n)[i]? = some (.bool false) := by
 rw [made_listF]
 simp [h]
def CloK (g : GV) (T N : List Bool) (k : Nat) : Prop := ∀ j, j < k -> N.getD (g.ps.getD j .none).left.toNat false = true -> ∀ s ∈ (g.ps.getD j .none).right, InM T N s
theorem InM.more {T N : List Bool} {s : Int × Int} (h : InM T N s) (i : Nat) : InM (T.set i true) N s := ⟨fun e => set_true (h.1 e), h.2⟩
theorem CloK.more {g : GV} {T N : List Bool} {k : Nat} (h : CloK g T N k) (i : Nat) : CloK g (T.set i true) N k := fun j hj hl s hs => (h j hj hl s hs).more i
theorem reached_R (g : GV) (w : World) (hfg : FG w g) (hst : 0 <= g.start /\ g.start < g.ns.length) :
  Calls Tryz.prog 36 #[g.val] w fun e w' => ∃ tb nb T N, e = .returned (.tuple #[.slice (some ⟨tb, 0, none⟩) g.ts.length g.ts.length, .slice (some ⟨nb, 0, none⟩) g.ns.length g.ns.length]) /\ RLst g T N /\ BB w' tb T /\ BB w' nb N /\ w.heap.size <= tb /\ w.heap.size <= nb /\ Below w.heap.size w w' := by
 have X0 : Hid ((w.alloc (gBox g)).heap[w.heap.size]? = some (gBox g)) := heap_alloc_new _ _
 have HFG : Hid (∀ w', Below w.heap.size w w' -> FG w' g) := fun w' hb => hfg.later hb
 have hmk := make_boolF g.ns.length (by have := hfg.nl; omega)
 have hmt := make_boolF g.ts.length (by have := hfg.tl; omega)
 have hpl := hfg.pl
 have hnl := hfg.nl.2
 have htl := hfg.tl.2
 obtain ⟨sm, hsm⟩ : ∃ m : Nat, g.start = (m : Int) := ⟨g.start.toNat, by omega⟩
 have slt : (sm : Int) < (g.ns.length : Int) := by omega
 have mc : (madeCells #[.bool false] g.ns.length)[sm]? = some (.bool false) := made_at (by omega)
 have F0 : Hid _ := RW.first g w sm (by omega) (by omega)
 obtain ⟨x0, x1, x2, x3, x4⟩ := gb_cells X0.out
 have bq := below_alloc (w.alloc (gBox g)) (.cells (madeCells #[.bool false] g.ts.length) 4)
 obtain ⟨y0, y1, y2, y3, y4⟩ := gb_cells ((bq.block _ (lt_of_block X0.out)).trans X0.out)
 have br := below_alloc ((w.alloc (gBox g)).alloc (.cells (madeCells #[.bool false] g.ts.length) 4)) (.cells (madeCells #[.bool false] g.ns.length) 4)
 obtain ⟨z0, z1, z2, z3, z4⟩ := gb_cells ((br.block _ (by simp; omega)).trans ((bq.block _ (lt_of_block X0.out)).trans X0.out))
 have fr := (BB.made ((w.alloc (gBox g)).alloc (.cells (madeCells #[.bool false] g.ts.length) 4)) g.ns.length).free sm
 rw [hsm] at x2 y2 z2
 simp only [show ((w.alloc (gBox g)).alloc (.cells (madeCells #[.bool false] g.ts.length) 4)).heap.size = w.heap.size + 1 + 1 by simp] at fr
 clear hfg bq br hst
 go_enter Tryz.func36, Tryz.ntmps36
 go_wp2
 go_loopw [6] (fun z wr => ∃ (bo : Bool) (T N : List Bool), z = .bool bo /\ RW g w T N wr /\ (bo = false -> CloK g T N g.ps.length)) (fun z wr => mesB (w.heap.size + 1 + 1) wr + tOf z)
 case atStart =>
  have q := F0.out
  simp only [gBox, hsm] at q
  exact ⟨true, _, _, rfl, q, fun h => by cases h⟩
 case round =>
  clear x0 x1 x2 x3 x4 y0 y1 y2 y3 y4 z0 z1 z2 z3 z4 fr F0
  obtain ⟨bo, T, N, rfl, hW, hcl⟩ := hrel
  have HW : Hid (RW g w T N wr) := hW
  have HM : Hid (mesB (w.heap.size + 1 + 1) wr = falseU N) := mesB_of hW.nb
  cases bo
  ·have R : Hid (RLst g T N) := ⟨hW.tl, hW.nl, hW.st, fun p hp hl => by
    obtain ⟨i, hi, rfl⟩ := List.getElem_of_mem hp
    have e2 : g.ps.getD i .none = g.ps[i] := by simp [List.getD, hi]
    have := hcl rfl i hi
    rw [e2] at this
    exact this hl, hW.lst⟩
   clear hW hcl
   go_wp2
   refine bodyPost_ret (results_tmp2 rfl _ _ _) rfl ?_
   exact ⟨w.heap.size + 1, w.heap.size + 1 + 1, T, N, rfl, R.out, HW.out.tb, HW.out.nb, by omega, by omega, HW.out.bel⟩
  ·clear hcl hW
   obtain ⟨wz, rfl⟩ : ∃ wz : World, wz = wr := ⟨_, rfl⟩
   go_wp2
   go_loopw [6, 7] (fun z i wr2 => ∃ (k : Nat) (b2 : Bool) (T2 N2 : List Bool), k <= g.ps.length /\ z = .bool b2 /\ i = .int .i64 k /\ RW g w T2 N2 wr2 /\ falseU N2 + (if b2 then 1 else 0) <= falseU N /\ (b2 = false -> N2 = N /\ CloK g T2 N k)) (fun _ i _ => g.ps.length - (intOf i).toNat)
   case atStart => exact ⟨0, false, T, N, Nat.zero_le _, rfl, rfl, HW.out, by simp, fun _ => ⟨rfl, fun j hj => absurd hj (Nat.not_lt_zero j)⟩⟩
   case round =>
    obtain ⟨k, b2, T2, N2, hk, rfl, rfl, hW2, hle, hcl⟩ := hrel
    have HW2 : Hid (RW g w T2 N2 wr) := hW2
    obtain ⟨x0, x1, x2, x3, x4⟩ := gb_cells hW2.box
    by_cases hlt : k < g.ps.length
    ·have klt : (k : Int) < (g.ps.length : Int) := by omega
     have hmem : g.ps.getD k .none ∈ g.ps := by simp [List.getD, hlt]
     have HME : Hid (g.ps.getD k .none ∈ g.ps) := hmem
     have HCL : Hid (b2 = false -> N2 = N /\ CloK g T2 N k) := hcl
     have HLE : Hid (falseU N2 + (if b2 then 1 else 0) <= falseU N) := hle
     obtain ⟨p, hp⟩ : ∃ p, g.ps.getD k .none = p := ⟨_, rfl⟩
     have HC : Hid (∀ w', Below w.heap.size w w' -> ∃ b o, g.pa = some ⟨b, o, none⟩ /\ w'.cell? ⟨b, o + k * 3, none⟩ = some (.int .i64 p.left) /\ w'.cell? ⟨b, o + k * 3 + 1, none⟩ = some (.slice p.ra p.right.length p.rc)) := fun w' hb => by
      obtain ⟨b, o, hpa, hbl, hc⟩ := (HFG.out _ hb).p.cells (by intro e; rw [e] at hlt; simp at hlt)
      obtain ⟨c0, c1, c2⟩ := hc k hlt
      rw [hp] at c0 c1
      exact ⟨b, o, hpa, c0, c1⟩
     rw [hp] at hmem
     have HME : Hid (p ∈ g.ps) := hmem
     have HP : Hid (g.ps.getD k .none = p) := hp
     have HRO : Hid (∀ w', Below w.heap.size w w' -> SymRow w' p.ra p.right) := fun w' hb => (HFG.out _ hb).p.rows _ hmem
     obtain ⟨l0, l1⟩ := (HFG.out _ hW2.bel).left _ hmem
     have hrl := (HFG.out _ hW2.bel).rl _ hmem
     have HSY : Hid (∀ s ∈ p.right, (s.1 = 1 /\ 0 <= s.2 /\ s.2 < g.ts.length) ∨ (s.1 = 2 /\ 0 <= s.2 /\ s.2 < g.ns.length)) := (HFG.out _ hW2.bel).sym _ hmem
     obtain ⟨m, hm⟩ : ∃ m : Nat, p.left = (m : Int) := ⟨p.left.toNat, by omega⟩
     have HL : Hid (p.left.toNat = m) := by show _ = _; omega
     have mlt : (m : Int) < (g.ns.length : Int) := by omega
     rw [hm] at HC
     clear hmem hcl hle hW2 hp hm l0 l1
     obtain ⟨wy, rfl⟩ : ∃ wy : World, wy = wr := ⟨_, rfl⟩
     go_wp2
     go_loopw [6, 8] (fun z i wr3 => ∃ (q : Nat) (b3 : Bool) (T3 N3 : List Bool), q <= p.right.length /\ z = .bool b3 /\ i = .int .i64 q /\ RW g w T3 N3 wr3 /\ falseU N3 + (if b3 then 1 else 0) <= falseU N /\ (b3 = false -> N3 = N /\ CloK g T3 N k /\ ∀ j, j < q -> InM T3 N (p.right.getD j (0, 0)))) (fun _ i _ => p.right.length - (intOf i).toNat)
     case atStart => exact ⟨0, b2, T2, N2, Nat.zero_le _, rfl, rfl, HW2.out, HLE.out, fun h => ⟨(HCL.out h).1, (HCL.out h).2, fun j hj => absurd hj (Nat.not_lt_zero j)⟩⟩
     case round =>
      clear x0 x1 x2 x3 x4
      obtain ⟨q, b3, T3, N3, hq, rfl, rfl, hW3, hle3, hcl3⟩ := hrel
      have HW3 : Hid (RW g w T3 N3 wr) := hW3
      obtain ⟨x0, x1, x2, x3, x4⟩ := gb_cells hW3.box
      obtain ⟨b, o, hpa, c0, c1⟩ := HC.out _ hW3.bel
      rw [hpa] at x3
      have hml : m < N3.length := by rw [hW3.nl]; omega
      have cm := hW3.nb.cell hml
      have END : Hid ((N3.getD m false = true -> q = p.right.length) -> b3 = false -> N3 = N /\ CloK g T3 N (k + 1)) := fun h hb => by
       obtain ⟨e1, e2, e3⟩ := hcl3 hb
       refine ⟨e1, fun j hj hl s hs => ?_⟩
       by_cases r : j = k
       ·subst r
        rw [HP.out] at hl hs
        rw [HL.out, <- e1] at hl
        have := h hl
        obtain ⟨i, hi, rfl⟩ := List.getElem_of_mem hs
        have := e3 i (by omega)
        simpa [List.getD, hi] using this
       ·exact e2 j (by omega) hl s hs
      have HLE3 : Hid (falseU N3 + (if b3 then 1 else 0) <= falseU N) := hle3
      have HCL3 : Hid (b3 = false -> N3 = N /\ CloK g T3 N k /\ ∀ j, j < q -> InM T3 N (p.right.getD j (0, 0))) := hcl3
      clear hle3 hcl3 hpa
      obtain ⟨mv, hmv⟩ : ∃ mv, N3.getD m false = mv := ⟨_, rfl⟩
      rw [hmv] at cm
      have HMV : Hid (N3.getD m false = mv) := hmv
      have EN : Hid ((mv = true -> q = p.right.length) -> b3 = false -> N3 = N /\ CloK g T3 N (k + 1)) := fun h => END.out (by rw [hmv]; exact h)
      clear hmv END hml
      cases mv
      ·have R : Hid (b3 = false -> N3 = N /\ CloK g T3 N (k + 1)) := EN.out (fun h => by cases h)
       clear EN hW3
       go_wp2
       go_roundw
       case rel => exact ⟨k + 1, b3, T3, N3, by omega, rfl, by go_num, HW3.out, HLE3.out, R.out⟩
       case measure => simp [intOf]; omega
      ·by_cases hql : q < p.right.length
       ·obtain ⟨sb, so, hpr, hsl, hsc⟩ := HRO.out _ hW3.bel (by intro e; rw [e] at hql; simp at hql)
        obtain ⟨s0, s1⟩ := hsc q hql
        have qlt : (q : Int) < (p.right.length : Int) := by omega
        have hsm : p.right.getD q (0, 0) ∈ p.right := by simp [List.getD, hql]
        have hin := HSY.out _ hsm
        clear EN hsc hsl
        rw [hpr] at c1
        generalize hx : p.right.getD q (0, 0) = x at *
        obtain ⟨x1, x2⟩ := x
        simp only at s0 s1 hin
        have HW1 : Hid (RW g w T3 N3 (wr.alloc (.cells #[.int .i64 x1, .int .i64 x2] 54))) := hW3.any (below_alloc _ _)
        have HST : Hid (p.right.getD q (0, 0) = (x1, x2) /\ (x1, x2) ∈ p.right) := ⟨hx, hsm⟩
        clear hx hsm hW3
        rcases hin with ⟨h1, i0, i1⟩ | ⟨h1, i0, i1⟩
        ·obtain ⟨n, rfl⟩ : ∃ n : Nat, x2 = (n : Int) := ⟨x2.toNat, by omega⟩
         have e1 : (x1 == 1) = true := by simpa using h1
         have hn : n < T3.length := by rw [HW1.out.tl]; omega
         have ct := HW1.out.tb.cell hn
         have ft := HW1.out.tb.free n
         have R : Hid (RW g w (T3.set n true) N3 ((wr.alloc (.cells #[.int .i64 x1, .int .i64 (n : Int)] 54)).setCell ⟨w.heap.size + 1, n, none⟩ (.bool true)) /\ (b3 = false -> N3 = N /\ CloK g (T3.set n true) N k /\ ∀ j, j < q + 1 -> InM (T3.set n true) N (p.right.getD j (0, 0)))) := by
          refine ⟨?_, fun hb => ?_⟩
          ·have := HW1.out.setT HME.out (by rw [HL.out]; exact HMV.out) HST.out.2 h1
           simpa using this
          ·obtain ⟨e1, e2, e3⟩ := HCL3.out hb
           refine ⟨e1, e2.more n, fun j hj => ?_⟩
           by_cases r : j = q
           ·subst r
            rw [HST.out.1]
            exact ⟨fun _ => by simpa using set_self hn, fun e => by simp at e; omega⟩
           ·exact (e3 j (by omega)).more n
         clear hn h1 HCL3
         go_wp2
         go_roundw
         case rel => exact ⟨q + 1, b3, _, N3, by omega, rfl, by go_num, R.out.1, HLE3.out, R.out.2⟩
         case measure => simp [intOf]; omega
        ·obtain ⟨n, rfl⟩ : ∃ n : Nat, x2 = (n : Int) := ⟨x2.toNat, by omega⟩
         have e1 : (x1 == 1) = false := by rw [h1]; decide
         have hn : n < N3.length := by rw [HW1.out.nl]; omega
         have ct := HW1.out.nb.cell hn
         have ft := HW1.out.nb.free n
         have R : Hid (N3.getD n false = true -> b3 = false -> N3 = N /\ CloK g T3 N k /\ ∀ j, j < q + 1 -> InM T3 N (p.right.getD j (0, 0))) := fun ht hb => by
          obtain ⟨e1, e2, e3⟩ := HCL3.out hb
          refine ⟨e1, e2, fun j hj => ?_⟩
          by_cases r : j = q
          ·subst r
           rw [HST.out.1]
           exact ⟨fun e => by simp at e; omega, fun _ => by rw [<- e1]; simpa using ht⟩
          ·exact e3 j (by omega)
         have S : Hid (RW g w T3 (N3.set n true) ((wr.alloc (.cells #[.int .i64 x1, .int .i64 (n : Int)] 54)).setCell ⟨w.heap.size + 1 + 1, n, none⟩ (.bool true)) /\ (N3.getD n false = false -> falseU (N3.set n true) + (if true then 1 else 0) <= falseU N)) := by
          refine ⟨?_, fun hf => ?_⟩
          ·have := HW1.out.setN HME.out (by rw [HL.out]; exact HMV.out) HST.out.2 h1
           simpa using this
          ·have h1 := falseU_set N3 n hn hf
           have h2 := HLE3.out
           show _ + 1 <= _
           omega
         obtain ⟨nv, hnv⟩ : ∃ nv, N3.getD n false = nv := ⟨_, rfl⟩
         rw [hnv] at ct R S
         clear hn h1 HCL3 hnv
         cases nv
         ·have S2 : Hid (falseU (N3.set n true) + (if true then 1 else 0) <= falseU N) := S.out.2 rfl
          have S1 : Hid _ := S.out.1
          clear R S
          go_wp2
          go_roundw
          case rel => exact ⟨q + 1, true, T3, _, by omega, rfl, by go_num, S1.out, S2.out, fun h => by cases h⟩
          case measure => simp [intOf]; omega
         ·have R2 : Hid _ := R.out rfl
          clear R S
          go_wp2
          go_roundw
          case rel => exact ⟨q + 1, b3, T3, N3, by omega, rfl, by go_num, HW1.out, HLE3.out, R2.out⟩
          case measure => simp [intOf]; omega
       ·have R : Hid (b3 = false -> N3 = N /\ CloK g T3 N (k + 1)) := EN.out (fun _ => by omega)
        have qlt : ¬ (q : Int) < (p.right.length : Int) := by omega
        clear EN hW3
        go_wp2
        go_roundw
        case rel => exact ⟨k + 1, b3, T3, N3, by omega, rfl, by go_num, HW3.out, HLE3.out, R.out⟩
        case measure => simp [intOf]; omega
    ·have klt : ¬ (k : Int) < (g.ps.length : Int) := by omega
     have R : Hid (RW g w T2 N2 wr /\ (b2 = false -> CloK g T2 N2 g.ps.length)) := ⟨hW2, fun hb => by
      obtain ⟨e, q⟩ := hcl hb
      rw [e]
      exact fun j hj => q j (by omega)⟩
     have ME : Hid (mesB (w.heap.size + 1 + 1) wr + (if b2 then 1 else 0) <= mesB (w.heap.size + 1 + 1) wz) := by
      show _ <= _
      rw [mesB_of hW2.nb, HM.out]
      exact hle
     clear hW2 hcl hle
     go_wp2
     go_roundw
     case rel => exact ⟨b2, T2, N2, rfl, R.out.1, R.out.2⟩
     case measure =>
      have := ME.out
      cases b2 <;> simp [tOf] at this ⊢ <;> omega
end Go.Proofs.YtnngnbdlipjflaaGreatDoor
