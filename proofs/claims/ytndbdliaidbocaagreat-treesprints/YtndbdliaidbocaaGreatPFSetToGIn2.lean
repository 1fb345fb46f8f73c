import Derived.Test.YtndbdliaidbocaaGreatPBBaseToGInts
import Derived.Laws.BitsAllLaws
import Derived.Laws.StructEq
import Derived.ChangeKeysEq
import Derived.RegionTactic
import Derived.BigRegion
import Derived.Deep.RegionWith
namespace Go.Proofs.YtndbdliaidbocaaGreat
set_option linter.unusedVariables false
open Go.RowKit
abbrev BS := Nat × Nat
def OkS (s : BS) : Prop := s.1 < 18446744073709551616 /\ s.2 < 18446744073709551616
def addS (s : BS) (n : Nat) : BS := if n < 64 then (s.1 ||| 2 ^ n, s.2) else (s.1, s.2 ||| 2 ^ (n - 64))
def withS (a b : BS) : BS := (a.1 ||| b.1, a.2 ||| b.2)
theorem pow64 {n : Nat} (h : n < 64) : 2 ^ n < 18446744073709551616 := by
 have := Nat.pow_lt_pow_right (a := 2) (by omega) h
 simpa using this
theorem or64 {a b : Nat} (ha : a < 18446744073709551616) (hb : b < 18446744073709551616) : a ||| b < 18446744073709551616 := Nat.or_lt_two_pow (n := 64) ha hb
theorem OkS.add {s : BS} (h : OkS s) {n : Nat} (hn : n < 128) : OkS (addS s n) := by
 unfold addS
 split
 ·exact ⟨or64 h.1 (pow64 (by omega)), h.2⟩
 ·exact ⟨h.1, or64 h.2 (pow64 (by omega))⟩
theorem OkS.with {a b : BS} (ha : OkS a) (hb : OkS b) : OkS (withS a b) := ⟨or64 ha.1 hb.1, or64 ha.2 hb.2⟩
theorem OkS.zero : OkS (0, 0) := ⟨by decide, by decide⟩
structure HGo (v : Int) (K L : List Int) : Prop where
 len : L.length = K.length
 old : ∀ i, K.getD i 0 ≠ 0 -> L.getD i 0 = K.getD i 0
 new : ∀ i, K.getD i 0 = 0 -> L.getD i 0 = 0 ∨ L.getD i 0 = v
theorem HGo.refl (v : Int) (K : List Int) : HGo v K K := ⟨rfl, fun _ _ => rfl, fun _ h => .inl h⟩
theorem HGo.trans {v : Int} (hv : v ≠ 0) {K L M : List Int} (h : HGo v K L) (h' : HGo v L M) : HGo v K M :=
 ⟨h'.len.trans h.len, fun i hi => by have e := h.old i hi; rw [h'.old i (by rw [e]; exact hi), e], fun i hi => by
  rcases h.new i hi with e | e
  ·exact h'.new i e
  ·right; rw [h'.old i (by rw [e]; exact hv), e]⟩
theorem three_box (w : World) (a b c : Obj) : Below w.heap.size w (((w.alloc a).alloc b).alloc c) /\ (((w.alloc a).alloc b).alloc c).heap[w.heap.size]? = some a /\ (((w.alloc a).alloc b).alloc c).heap[w.heap.size + 1]? = some b /\ (((w.alloc a).alloc b).alloc c).heap[w.heap.size + 1 + 1]? = some c := by
 have b1 := below_alloc w a
 have b2 := below_alloc (w.alloc a) b
 have b3 := below_alloc ((w.alloc a).alloc b) c
 have s1 : (w.alloc a).heap.size = w.heap.size + 1 := by simp
 have s2 : ((w.alloc a).alloc b).heap.size = w.heap.size + 1 + 1 := by simp
 refine ⟨b1.trans ((b2.mono b1.size).trans (b3.mono (Nat.le_trans b1.size b2.size))), ?_, ?_, ?_⟩
 ·rw [b3.block _ (by omega), b2.block _ (by omega)]; exact heap_alloc_new _ _
 ·rw [b3.block _ (by omega), <- s1]; exact heap_alloc_new _ _
 ·rw [<- s2]; exact heap_alloc_new _ _
abbrev gBox (g : GV) : Obj := .cells #[.slice g.ta g.ts.length g.tc, .slice g.na g.ns.length g.nc, .int .i64 g.start, .slice g.pa g.ps.length g.pc, .slice g.la g.ls.length g.lc] 26
def inT (g : GV) (n : Int) : Bool := decide (0 <= n /\ n < g.ts.length)
def inN (g : GV) (n : Int) : Bool := decide (0 <= n /\ n < g.ns.length)
def inG (g : GV) (k n : Int) : Bool := if k = 1 then inT g n else if k = 2 then inN g n else false
set_option maxRecDepth 100000 in
set_option maxHeartbeats 2000000 in
theorem isterm_any (g : GV) (n : Int) (w : World) (hl : g.ts.length <= 140737488355328) : Calls Tryz.prog 87 #[g.val, .int .i64 n] w fun e w' => e = .returned (.bool (inT g n)) /\ Below w.heap.size w w' := by
 have fin := below_alloc w (gBox g)
 by_cases h0 : 0 <= n
 ·by_cases h1 : n < g.ts.length
  ·have E : Hid (inT g n = true) := by show _ = _; simp [inT, h0, h1]
   go_enter Tryz.func87, Tryz.ntmps87
   go_wp2
   go_ret
   exact ⟨by rw [E.out]; rfl, fin⟩
  ·have E : Hid (inT g n = false) := by show _ = _; simp [inT, h1]
   go_enter Tryz.func87, Tryz.ntmps87
   go_wp2
   go_ret
   exact ⟨by rw [E.out]; rfl, fin⟩
 ·have E : Hid (inT g n = false) := by show _ = _; simp [inT, h0]
  go_enter Tryz.func87, Tryz.ntmps87
  go_wp2
  go_ret
  exact ⟨by rw [E.out]; rfl, fin⟩
set_option maxRecDepth 100000 in
set_option maxHeartbeats 2000000 in
theorem isnon_any (g : GV) (n : Int) (w : World) (hl : g.ns.length <= 140737488355328) : Calls Tryz.prog 69 #[g.val, .int .i64 n] w fun e w' => e = .returned (.bool (inN g n)) /\ Below w.heap.size w w' := by
 have fin := below_alloc w (gBox g)
 by_cases h0 : 0 <= n
 ·by_cases h1 : n < g.ns.length
  ·have E : Hid (inN g n = true) := by show _ = _; simp [inN, h0, h1]
   go_enter Tryz.func69, Tryz.ntmps69
   go_wp2
   go_ret
   exact ⟨by rw [E.out]; rfl, fin⟩
  ·have E : Hid (inN g n = false) := by show _ = _; simp [inN, h1]
   go_enter Tryz.func69, Tryz.ntmps69
   go_wp2
   go_ret
   exact ⟨by rw [E.out]; rfl, fin⟩
 ·have E : Hid (inN g n = false) := by show _ = _; simp [inN, h0]
  go_enter Tryz.func69, Tryz.ntmps69
  go_wp2
  go_ret
  exact ⟨by rw [E.out]; rfl, fin⟩
abbrev syBox (k n : Int) : Obj := .cells #[.int .i64 k, .int .i64 n] 74
theorem two_box (w : World) (g : GV) (k n : Int) : Below w.heap.size w ((w.alloc (gBox g)).alloc (syBox k n)) := (below_alloc w _).alloc (below_alloc w _).size _
set_option maxRecDepth 100000 in
set_option maxHeartbeats 2000000 in
theorem in_g (g : GV) (k n : Int) (w : World) (h1 : g.ts.length <= 140737488355328) (h2 : g.ns.length <= 140737488355328) : Calls Tryz.prog 82 #[g.val, .agg #[.int .i64 k, .int .i64 n]] w fun e w' => e = .returned (.bool (inG g k n)) /\ Below w.heap.size w w' := by
 have fin := two_box w g k n
 by_cases k1 : k = 1
 ·subst k1
  have E : Hid (inG g 1 n = inT g n) := rfl
  go_enter Tryz.func82, Tryz.ntmps82
  go_wp2_with (first
   | (go_at_call 87; refine (isterm_any g n _ h1).mono ?_; rintro e w1 ⟨rfl, b1⟩; have B1 := fin.trans (b1.mono fin.size); clear b1))
  go_ret
  exact ⟨by rw [E.out]; rfl, B1⟩
 by_cases k2 : k = 2
 ·subst k2
  have E : Hid (inG g 2 n = inN g n) := rfl
  go_enter Tryz.func82, Tryz.ntmps82
  go_wp2_with (first
   | (go_at_call 69; refine (isnon_any g n _ h2).mono ?_; rintro e w1 ⟨rfl, b1⟩; have B1 := fin.trans (b1.mono fin.size); clear b1))
  go_ret
  exact ⟨by rw [E.out]; rfl, B1⟩
 have q1 : (k == 1) = false := by simp [k1]
 have q2 : (k == 2) = false := by simp [k2]
 have E : Hid (inG g k n = false) := by show _ = _; unfold inG; rw [if_neg k1, if_neg k2]
 go_enter Tryz.func82, Tryz.ntmps82
 go_wp2
 go_ret
 exact ⟨by rw [E.out]; rfl, fin⟩
set_option maxRecDepth 100000 in
set_option maxHeartbeats 4000000 in
theorem refin_g (g : GV) (k n : Int) (w : World) (h1 : g.ts.length <= 140737488355328) (h2 : g.ns.length <= 140737488355328) : Calls Tryz.prog 67 #[g.val, .agg #[.int .i64 k, .int .i64 n]] w fun e w' => e = .returned (.bool (inG g k n)) /\ Below w.heap.size w w' := by
 have fin := two_box w g k n
 by_cases k1 : k = 1
 ·subst k1
  have hc : (0 <= n /\ n < g.ts.length /\ Hid (inG g 1 n = true)) ∨ (0 <= n /\ ¬ n < g.ts.length /\ Hid (inG g 1 n = false)) ∨ (¬ 0 <= n /\ Hid (inG g 1 n = false)) := by
   by_cases a : 0 <= n
   ·by_cases b : n < g.ts.length
    ·exact .inl ⟨a, b, by show _ = _; simp [inG, inT, a, b]⟩
    ·exact .inr (.inl ⟨a, b, by show _ = _; simp [inG, inT, b]⟩)
   ·exact .inr (.inr ⟨a, by show _ = _; simp [inG, inT, a]⟩)
  rcases hc with ⟨a, b, E⟩ | ⟨a, b, E⟩ | ⟨a, E⟩
  all_goals
   go_enter Tryz.func67, Tryz.ntmps67
   go_wp2
   go_ret
   exact ⟨by rw [E.out]; rfl, fin⟩
 by_cases k2 : k = 2
 ·subst k2
  have hc : (0 <= n /\ n < g.ns.length /\ Hid (inG g 2 n = true)) ∨ (0 <= n /\ ¬ n < g.ns.length /\ Hid (inG g 2 n = false)) ∨ (¬ 0 <= n /\ Hid (inG g 2 n = false)) := by
   by_cases a : 0 <= n
   ·by_cases b : n < g.ns.length
    ·exact .inl ⟨a, b, by show _ = _; simp [inG, inN, a, b]⟩
    ·exact .inr (.inl ⟨a, b, by show _ = _; simp [inG, inN, b]⟩)
   ·exact .inr (.inr ⟨a, by show _ = _; simp [inG, inN, a]⟩)
  rcases hc with ⟨a, b, E⟩ | ⟨a, b, E⟩ | ⟨a, E⟩
  all_goals
   go_enter Tryz.func67, Tryz.ntmps67
   go_wp2
   go_ret
   exact ⟨by rw [E.out]; rfl, fin⟩
 have q1 : (k == 1) = false := by simp [k1]
 have q2 : (k == 2) = false := by simp [k2]
 have E : Hid (inG g k n = false) := by show _ = _; unfold inG; rw [if_neg k1, if_neg k2]
 go_enter Tryz.func67, Tryz.ntmps67
 go_wp2
 go_ret
 exact ⟨by rw [E.out]; rfl, fin⟩
end Go.Proofs.YtndbdliaidbocaaGreat
