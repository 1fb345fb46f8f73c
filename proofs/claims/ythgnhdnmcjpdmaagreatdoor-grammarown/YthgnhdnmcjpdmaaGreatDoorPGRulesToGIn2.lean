import Derived.Test.YthgnhdnmcjpdmaaGreatDoorPBBaseToGRow
namespace Go.Proofs.YthgnhdnmcjpdmaaGreatDoor
set_option linter.unusedVariables false
set_option maxRecDepth 100000
set_option maxHeartbeats 16000000
open Go.RowKit
theorem grew_belowI {w w1 w4 : World} {v v' : Value} (hb : Below w.heap.size w w1) (hv : ∀ k, v.ownBlock = some k -> w.heap.size <= k) (g : Grew w1 w4 v v') : Below w.heap.size w w4 /\ ∀ k, v'.ownBlock = some k -> w.heap.size <= k := by
 refine ⟨⟨g.grown.os.trans hb.os, g.grown.tape.trans hb.tape, g.grown.output.trans hb.output, Nat.le_trans hb.size g.grown.size, fun k hk => (g.grown.block k (Nat.lt_of_lt_of_le hk hb.size) fun e => ?_).trans (hb.block k hk)⟩, fun k hk => ?_⟩
 ·have := hv k e.symm; omega
 ·rcases g.moved with e | ⟨j, e, hj⟩
  ·exact hv k (by rw [<- e]; exact hk)
  ·rw [e] at hk; simp at hk; have := hb.size; omega
def rulesU (ps : List PV) (n : Int) (k : Nat) : List Int := ((List.range k).filter fun i => decide ((ps.getD i .none).left = n)).map fun (i : Nat) => (i : Int)
theorem rulesU_succ (ps : List PV) (n : Int) (k : Nat) : rulesU ps n (k + 1) = if (ps.getD k .none).left = n then rulesU ps n k ++ [(k : Int)] else rulesU ps n k := by
 unfold rulesU
 rw [List.range_succ, List.filter_append, List.map_append]
 by_cases h : (ps.getD k .none).left = n
 ·have e : List.filter (fun i => decide ((ps.getD i .none).left = n)) [k] = [k] := by rw [List.filter_cons, if_pos (decide_eq_true h)]; rfl
  rw [if_pos h, e]; rfl
 ·have e : List.filter (fun i => decide ((ps.getD i .none).left = n)) [k] = [] := by rw [List.filter_cons, if_neg (by rw [decide_eq_false h]; decide)]; rfl
  rw [if_neg h, e]; simp
theorem rulesU_len (ps : List PV) (n : Int) (k : Nat) : (rulesU ps n k).length <= k := by
 unfold rulesU
 rw [List.length_map]
 exact Nat.le_trans (List.length_filter_le _ _) (by simp)
abbrev gBox (g : GV) : Obj := .cells #[.slice g.ta g.ts.length g.tc, .slice g.na g.ns.length g.nc, .int .i64 g.start, .slice g.pa g.ps.length g.pc, .slice g.la g.ls.length g.lc] 26
theorem rules_own (g : GV) (n : Int) (w : World) (h : GAt 1048576 w g) :
  Calls Tryz.prog 13 #[g.val, .int .i64 n] w fun e w' => ∃ a c, e = .returned (.slice a (rulesU g.ps n g.ps.length).length c) /\ IL w' (.slice a (rulesU g.ps n g.ps.length).length c) (rulesU g.ps n g.ps.length) /\ Below w.heap.size w w' /\ ∀ j, (Value.slice a (rulesU g.ps n g.ps.length).length c).ownBlock = some j -> w.heap.size <= j := by
 have hpl := h.pl
 have HP : Hid (PrRow w g.pa g.ps) := h.p
 clear h
 go_enter Tryz.func13, Tryz.ntmps13
 go_wp2
 go_loopw [5, 11] (fun v i wr => ∃ k : Nat, k <= g.ps.length /\ i = .int .i64 k /\ IL wr v (rulesU g.ps n k) /\ (∀ j, v.ownBlock = some j -> w.heap.size <= j) /\ Below w.heap.size w wr) (fun _ i _ => g.ps.length - (intOf i).toNat)
 case atStart => exact ⟨0, Nat.zero_le _, rfl, IL.nil _, (fun j hj => by simp [Value.ownBlock] at hj), below_alloc w _⟩
 case round =>
  obtain ⟨k, hk, rfl, hI, hv, hB⟩ := hrel
  obtain ⟨va, vc, rfl⟩ := il_len hI
  by_cases hlt : k < g.ps.length
  ·obtain ⟨b, off, hpa, hbl, hc⟩ := (HP.out.later hB).cells (by intro e; rw [e] at hlt; simp at hlt)
   obtain ⟨c0, c1, c2⟩ := hc k hlt
   have hst : Hid _ := rulesU_succ g.ps n k
   have hrl := rulesU_len g.ps n k
   clear hc
   generalize g.ps.getD k .none = p at *
   obtain ⟨pl, pa, pc, pr, pp⟩ := p
   simp only at c0 c1 c2
   generalize hR : rulesU g.ps n k = R at *
   rw [hpa]
   by_cases he : pl = n
   ·subst he
    have e1 : (pl == pl) = true := by simp
    have HIA : Hid (IL ((wr.alloc (.cells #[.int .i64 pl, .slice pa pr.length pc, .int .i64 pp] 75)).alloc (.cells #[.int .i64 k] 3)) (.slice va R.length vc) R) := (hI.later (below_alloc _ _)).later (below_alloc _ _)
    have HBA : Hid (Below w.heap.size w ((wr.alloc (.cells #[.int .i64 pl, .slice pa pr.length pc, .int .i64 pp] 75)).alloc (.cells #[.int .i64 k] 3))) := (hB.alloc hB.size _).alloc (by have := hB.size; simp; omega) _
    have HV : Hid (∀ j, (Value.slice va R.length vc).ownBlock = some j -> w.heap.size <= j) := hv
    have HLT : Hid (R.length <= 2000000) := by show _ <= _; omega
    go_wp2_with (first
     | (at_builtin; refine wpList_il_append rfl _ _ rfl (.slice va R.length vc) R rfl HIA.out _ 1 k rfl (by simp) HLT.out ?_; intro a4 n4 c4 w4 ho4 hg4))
    go_roundw
    case rel =>
     obtain ⟨g1, g2⟩ := grew_belowI HBA.out HV.out hg4
     refine ⟨k + 1, by omega, by go_num, ?_, g2, g1⟩
     rw [hst.out, if_pos (by first | rfl | trivial)]
     exact ho4
    case measure => simp [intOf]; omega
   ·have e1 : (pl == n) = false := by simp [he]
    go_wp2
    go_roundw
    case rel =>
     refine ⟨k + 1, by omega, by go_num, ?_, hv, hB.alloc hB.size _⟩
     rw [hst.out, if_neg he]
     exact hI.later (below_alloc _ _)
    case measure => simp [intOf]; omega
  ·obtain rfl : k = g.ps.length := by omega
   go_wp2
   go_ret
   exact ⟨va, vc, rfl, hI, hB, hv⟩
theorem rules_any (g : GV) (n : Int) (w : World) (h : GAt 1048576 w g) :
  Calls Tryz.prog 13 #[g.val, .int .i64 n] w fun e w' => ∃ a c, e = .returned (.slice a (rulesU g.ps n g.ps.length).length c) /\ IL w' (.slice a (rulesU g.ps n g.ps.length).length c) (rulesU g.ps n g.ps.length) /\ Below w.heap.size w w' := (rules_own g n w h).mono fun _ _ ⟨a, c, e, h1, h2, _⟩ => ⟨a, c, e, h1, h2⟩
def inT (g : GV) (n : Int) : Bool := decide (0 <= n /\ n < g.ts.length)
def inN (g : GV) (n : Int) : Bool := decide (0 <= n /\ n < g.ns.length)
def inG (g : GV) (k n : Int) : Bool := if k = 1 then inT g n else if k = 2 then inN g n else false
theorem isterm_any (g : GV) (n : Int) (w : World) (hl : g.ts.length <= 140737488355328) : Calls Tryz.prog 147 #[g.val, .int .i64 n] w fun e w' => e = .returned (.bool (inT g n)) /\ Below w.heap.size w w' := by
 have fin := below_alloc w (gBox g)
 by_cases h0 : 0 <= n
 ·by_cases h1 : n < g.ts.length
  ·have E : Hid (inT g n = true) := by show _ = _; simp [inT, h0, h1]
   go_enter Tryz.func147, Tryz.ntmps147
   go_wp2
   go_ret
   exact ⟨by rw [E.out]; rfl, fin⟩
  ·have E : Hid (inT g n = false) := by show _ = _; simp [inT, h1]
   go_enter Tryz.func147, Tryz.ntmps147
   go_wp2
   go_ret
   exact ⟨by rw [E.out]; rfl, fin⟩
 ·have E : Hid (inT g n = false) := by show _ = _; simp [inT, h0]
  go_enter Tryz.func147, Tryz.ntmps147
  go_wp2
  go_ret
  exact ⟨by rw [E.out]; rfl, fin⟩
theorem isnon_any (g : GV) (n : Int) (w : World) (hl : g.ns.length <= 140737488355328) : Calls Tryz.prog 117 #[g.val, .int .i64 n] w fun e w' => e = .returned (.bool (inN g n)) /\ Below w.heap.size w w' := by
 have fin := below_alloc w (gBox g)
 by_cases h0 : 0 <= n
 ·by_cases h1 : n < g.ns.length
  ·have E : Hid (inN g n = true) := by show _ = _; simp [inN, h0, h1]
   go_enter Tryz.func117, Tryz.ntmps117
   go_wp2
   go_ret
   exact ⟨by rw [E.out]; rfl, fin⟩
  ·have E : Hid (inN g n = false) := by show _ = _; simp [inN, h1]
   go_enter Tryz.func117, Tryz.ntmps117
   go_wp2
   go_ret
   exact ⟨by rw [E.out]; rfl, fin⟩
 ·have E : Hid (inN g n = false) := by show _ = _; simp [inN, h0]
  go_enter Tryz.func117, Tryz.ntmps117
  go_wp2
  go_ret
  exact ⟨by rw [E.out]; rfl, fin⟩
abbrev syBox (k n : Int) : Obj := .cells #[.int .i64 k, .int .i64 n] 30
theorem two_box (w : World) (g : GV) (k n : Int) : Below w.heap.size w ((w.alloc (gBox g)).alloc (syBox k n)) := (below_alloc w _).alloc (below_alloc w _).size _
theorem in_g (g : GV) (k n : Int) (w : World) (h1 : g.ts.length <= 140737488355328) (h2 : g.ns.length <= 140737488355328) : Calls Tryz.prog 142 #[g.val, .agg #[.int .i64 k, .int .i64 n]] w fun e w' => e = .returned (.bool (inG g k n)) /\ Below w.heap.size w w' := by
 have fin := two_box w g k n
 by_cases k1 : k = 1
 ·subst k1
  have E : Hid (inG g 1 n = inT g n) := rfl
  go_enter Tryz.func142, Tryz.ntmps142
  go_wp2_with (first
   | (go_at_call 147; refine (isterm_any g n _ h1).mono ?_; rintro e w1 ⟨rfl, b1⟩; have B1 := fin.trans (b1.mono fin.size); clear b1))
  go_ret
  exact ⟨by rw [E.out]; rfl, B1⟩
 by_cases k2 : k = 2
 ·subst k2
  have E : Hid (inG g 2 n = inN g n) := rfl
  go_enter Tryz.func142, Tryz.ntmps142
  go_wp2_with (first
   | (go_at_call 117; refine (isnon_any g n _ h2).mono ?_; rintro e w1 ⟨rfl, b1⟩; have B1 := fin.trans (b1.mono fin.size); clear b1))
  go_ret
  exact ⟨by rw [E.out]; rfl, B1⟩
 have q1 : (k == 1) = false := by simp [k1]
 have q2 : (k == 2) = false := by simp [k2]
 have E : Hid (inG g k n = false) := by show _ = _; unfold inG; rw [if_neg k1, if_neg k2]
 go_enter Tryz.func142, Tryz.ntmps142
 go_wp2
 go_ret
 exact ⟨by rw [E.out]; rfl, fin⟩
end Go.Proofs.YthgnhdnmcjpdmaaGreatDoor
