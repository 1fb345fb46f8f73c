import Derived.Test.YteciabdjkaackaaGreatPSWordToSCheck
namespace Go.Proofs.YteciabdjkaackaaGreat
set_option linter.unusedVariables false
open Go.RowKit Go.Maps
set_option maxRecDepth 100000 in
set_option maxHeartbeats 2000000 in
theorem cn_terms (a1 a2 : Option Addr) (c1 c2 : Nat) (ts ns : List ByteArray) (w : World) (k1 : (ts.length : Int) > 64) :
  Calls Tryz.prog 120 #[.slice a1 ts.length c1, .slice a2 ns.length c2] w fun e w' => ∃ er at_, e = .returned (.tuple #[.int .i64 er, .int .i64 at_]) /\ er = 31 /\ at_ = 0 /\ Below w.heap.size w w' := by
 go_enter Tryz.func120, Tryz.ntmps120
 go_wp2
 go_returns
 exact ⟨_, _, rfl, rfl, rfl, Below.refl _ _⟩
set_option maxRecDepth 100000 in
set_option maxHeartbeats 2000000 in
theorem cn_nons (a1 a2 : Option Addr) (c1 c2 : Nat) (ts ns : List ByteArray) (w : World) (k1 : ¬ (ts.length : Int) > 64) (k2 : (ns.length : Int) > 64) :
  Calls Tryz.prog 120 #[.slice a1 ts.length c1, .slice a2 ns.length c2] w fun e w' => ∃ er at_, e = .returned (.tuple #[.int .i64 er, .int .i64 at_]) /\ er = 32 /\ at_ = 0 /\ Below w.heap.size w w' := by
 go_enter Tryz.func120, Tryz.ntmps120
 go_wp2
 go_returns
 exact ⟨_, _, rfl, rfl, rfl, Below.refl _ _⟩
def CN1 (a1 : Option Addr) (c1 : Nat) (ts : List ByteArray) (w : World) (er at_ : Int) (sn : List ByteArray) : Prop :=
 Calls Tryz.prog 137 #[.slice a1 ts.length c1, .func (.func 138) #[] #[], .map (some w.heap.size)] (w.alloc (.map #[] 0)) fun e w1 => e = .returned (.tuple #[.int .i64 er, .int .i64 at_]) /\ ∃ D1, w1.ownsMap Tryz.prog 9 unitElem w.heap.size (Maps.size D1) D1 /\ USet D1 sn /\ Below w.heap.size w w1
def CN2 (a2 : Option Addr) (c2 : Nat) (ns : List ByteArray) (w : World) (sn1 : List ByteArray) (er at_ : Int) (sn : List ByteArray) : Prop :=
 ∀ (w1 : World), (∃ D1, w1.ownsMap Tryz.prog 9 unitElem w.heap.size (Maps.size D1) D1 /\ USet D1 sn1 /\ Below w.heap.size w w1) ->
  Calls Tryz.prog 137 #[.slice a2 ns.length c2, .func (.func 139) #[] #[], .map (some w.heap.size)] w1 fun e w2 => e = .returned (.tuple #[.int .i64 er, .int .i64 at_]) /\ ∃ D2, w2.ownsMap Tryz.prog 9 unitElem w.heap.size (Maps.size D2) D2 /\ USet D2 sn /\ Below w.heap.size w w2
set_option maxRecDepth 100000 in
set_option maxHeartbeats 2000000 in
theorem cn_first (a1 a2 : Option Addr) (c1 c2 : Nat) (ts ns : List ByteArray) (w : World) (k1 : ¬ (ts.length : Int) > 64) (k2 : ¬ (ns.length : Int) > 64) (er1 at1 : Int) (sn1 : List ByteArray) (k3 : (er1 == 0) = false) (HC1 : Hid (CN1 a1 c1 ts w er1 at1 sn1)) :
  Calls Tryz.prog 120 #[.slice a1 ts.length c1, .slice a2 ns.length c2] w fun e w' => ∃ er at_, e = .returned (.tuple #[.int .i64 er, .int .i64 at_]) /\ er = er1 /\ at_ = at1 /\ Below w.heap.size w w' := by
 have hmm := @run_makeMap Tryz.prog
 have H1 : Hid True := trivial
 go_enter Tryz.func120, Tryz.ntmps120
 go_wp2_with (first | (go_at_call 137; guard_hyp H1 : Hid True; clear H1; refine Calls.mono HC1.out ?_; rintro e w1 ⟨rfl, H1'⟩; have H1 : Hid _ := H1'; clear H1'))
 go_returns
 obtain ⟨D, _, _, hb⟩ := H1.out
 exact ⟨_, _, rfl, rfl, rfl, hb⟩
set_option maxRecDepth 100000 in
set_option maxHeartbeats 2000000 in
theorem cn_second (a1 a2 : Option Addr) (c1 c2 : Nat) (ts ns : List ByteArray) (w : World) (k1 : ¬ (ts.length : Int) > 64) (k2 : ¬ (ns.length : Int) > 64) (at1 er2 at2 : Int) (sn1 sn2 : List ByteArray) (k4 : (er2 == 0) = false) (HC1 : Hid (CN1 a1 c1 ts w 0 at1 sn1)) (HC2 : Hid (CN2 a2 c2 ns w sn1 er2 at2 sn2)) :
  Calls Tryz.prog 120 #[.slice a1 ts.length c1, .slice a2 ns.length c2] w fun e w' => ∃ er at_, e = .returned (.tuple #[.int .i64 er, .int .i64 at_]) /\ er = er2 /\ at_ = at2 /\ Below w.heap.size w w' := by
 have hmm := @run_makeMap Tryz.prog
 have H1 : Hid True := trivial
 go_enter Tryz.func120, Tryz.ntmps120
 go_wp2_with (first | (go_at_call 137; guard_hyp H1 : Hid True; clear H1; refine Calls.mono HC1.out ?_; rintro e w1 ⟨rfl, H1'⟩; have H1 : Hid _ := H1'; clear H1') | (go_at_call 137; refine Calls.mono (HC2.out _ H1.out) ?_; rintro e w2 ⟨rfl, H2'⟩; have H2 : Hid _ := H2'; clear H2'))
 go_returns
 obtain ⟨D, _, _, hb⟩ := H2.out
 exact ⟨_, _, rfl, rfl, rfl, hb⟩
set_option maxRecDepth 100000 in
set_option maxHeartbeats 2000000 in
theorem cn_good (a1 a2 : Option Addr) (c1 c2 : Nat) (ts ns : List ByteArray) (w : World) (k1 : ¬ (ts.length : Int) > 64) (k2 : ¬ (ns.length : Int) > 64) (at1 at2 : Int) (sn1 sn2 : List ByteArray) (HC1 : Hid (CN1 a1 c1 ts w 0 at1 sn1)) (HC2 : Hid (CN2 a2 c2 ns w sn1 0 at2 sn2)) :
  Calls Tryz.prog 120 #[.slice a1 ts.length c1, .slice a2 ns.length c2] w fun e w' => ∃ er at_, e = .returned (.tuple #[.int .i64 er, .int .i64 at_]) /\ er = 0 /\ at_ = sn2.length /\ Below w.heap.size w w' := by
 have hmm := @run_makeMap Tryz.prog
 have H1 : Hid True := trivial
 go_enter Tryz.func120, Tryz.ntmps120
 go_wp2_with (first | (go_at_call 137; guard_hyp H1 : Hid True; clear H1; refine Calls.mono HC1.out ?_; rintro e w1 ⟨rfl, H1'⟩; have H1 : Hid _ := H1'; clear H1') | (go_at_call 137; refine Calls.mono (HC2.out _ H1.out) ?_; rintro e w2 ⟨rfl, D2, o2, s2, hb2'⟩; have hb2 : Hid _ := hb2'; clear hb2'; have hz : Hid (Maps.size D2 = sn2.length) := s2.size; clear s2) | (at_len; refine wpList_len_own _ rfl _ 201 rfl 9 186 Tryz.underlying201 unitElem _ _ D2 rfl o2 ?_))
 go_returns
 exact ⟨_, _, rfl, rfl, by rw [hz.out], hb2.out⟩
theorem checknames_any (a1 a2 : Option Addr) (c1 c2 N1 N2 : Nat) (ts ns : List ByteArray) (w : World) (e1 : N1 = ts.length) (e2 : N2 = ns.length) (hz1 : ∀ s ∈ ts, s.size <= maxLen) (hz2 : ∀ s ∈ ns, s.size <= maxLen) (hr1 : StrRow w a1 ts) (hr2 : StrRow w a2 ns) :
  Calls Tryz.prog 120 #[.slice a1 N1 c1, .slice a2 N2 c2] w fun e w' => ∃ er at_, e = .returned (.tuple #[.int .i64 er, .int .i64 at_]) /\ er = (checkF ts ns).1 /\ at_ = (checkF ts ns).2 /\ Below w.heap.size w w' := by
 subst e1 e2
 by_cases k1 : 64 < ts.length
 ·have HE : checkF ts ns = (31, 0) := by unfold checkF; rw [if_pos k1]
  rw [HE]
  exact cn_terms a1 a2 c1 c2 ts ns w (by omega)
 by_cases k2 : 64 < ns.length
 ·have HE : checkF ts ns = (32, 0) := by unfold checkF; rw [if_neg k1, if_pos k2]
  rw [HE]
  exact cn_nons a1 a2 c1 c2 ts ns w (by omega) (by omega)
 have k1' : ¬ (ts.length : Int) > 64 := by omega
 have k2' : ¬ (ns.length : Int) > 64 := by omega
 have hb0 : Below w.heap.size w (w.alloc (.map #[] 0)) := below_alloc w _
 have ho0 : (w.alloc (.map #[] 0)).ownsMap Tryz.prog 9 unitElem w.heap.size (Maps.size (.map [] : DataW Unit)) (.map [] : DataW Unit) := World.ownsMap_made w Tryz.prog 9 (unitElem (H := Unit))
 have HC1 : CN1 a1 c1 ts w (formsF termS ts []).1 (formsF termS ts []).2.1 (formsF termS ts []).2.2 := (forms_term a1 c1 w.heap.size ts [] (.map []) (w.alloc (.map #[] 0)) (by omega) hz1 (by simp) (hr1.later hb0) ho0 USet.empty).mono fun e w1 ⟨D1, h1, h2, h3, h4⟩ => ⟨h1, D1, h2, h3, below_grown hb0 (Nat.le_refl _) h4⟩
 have hck : checkF ts ns = if (formsF termS ts []).1 ≠ 0 then ((formsF termS ts []).1, (formsF termS ts []).2.1) else
   if (formsF wordS ns (formsF termS ts []).2.2).1 ≠ 0 then ((formsF wordS ns (formsF termS ts []).2.2).1, (formsF wordS ns (formsF termS ts []).2.2).2.1) else (0, (formsF wordS ns (formsF termS ts []).2.2).2.2.length) := by
  unfold checkF; rw [if_neg k1, if_neg k2]
 have hl1 := formsF_len termS ts []
 generalize formsF termS ts [] = A at *
 obtain ⟨er1, at1, sn1⟩ := A
 simp only at hck hl1 HC1
 have hl2 : sn1.length <= 1000 := by simp at hl1; omega
 have HC2 : CN2 a2 c2 ns w sn1 (formsF wordS ns sn1).1 (formsF wordS ns sn1).2.1 (formsF wordS ns sn1).2.2 := fun w1 ⟨D1, hown, hU, hb⟩ => (forms_word a2 c2 w.heap.size ns sn1 D1 w1 (by omega) hz2 hl2 (hr2.later hb) hown hU).mono fun e w2 ⟨D2, h1, h2, h3, h4⟩ => ⟨h1, D2, h2, h3, below_grown hb (Nat.le_refl _) h4⟩
 generalize formsF wordS ns sn1 = C at *
 obtain ⟨er2, at2, sn2⟩ := C
 simp only at hck HC2
 by_cases k3 : er1 = 0
 ·subst k3
  simp only [ne_eq, not_true_eq_false, if_false] at hck
  by_cases k4 : er2 = 0
  ·subst k4
   have HE : checkF ts ns = (0, (sn2.length : Int)) := by rw [hck]; simp
   rw [HE]
   exact cn_good a1 a2 c1 c2 ts ns w k1' k2' at1 at2 sn1 sn2 HC1 HC2
  ·have HE : checkF ts ns = (er2, at2) := by rw [hck]; simp [k4]
   rw [HE]
   exact cn_second a1 a2 c1 c2 ts ns w k1' k2' at1 er2 at2 sn1 sn2 (by simp [k4]) HC1 HC2
 ·have HE : checkF ts ns = (er1, at1) := by rw [hck]; simp [k3]
  rw [HE]
  exact cn_first a1 a2 c1 c2 ts ns w k1' k2' er1 at1 sn1 (by simp [k3]) HC1
end Go.Proofs.YteciabdjkaackaaGreat
