import Derived.Test.YtgaoahifblifoaaDoorRefOpen
import Derived.Test.YtgaoahifblifoaaDoorLive
namespace Go.Proofs.YtgaoahifblifoaaDoor
set_option linter.unusedVariables false
open Go.RowKit

def sealE (xs : List Int) : Int := if 16777216 < xs.length then 5 else 0
def sealB (k : Int) (xs : List Int) : List Int := if 16777216 < xs.length then [] else frame k xs
theorem sealB_len (k : Int) (xs : List Int) : (sealB k xs).length ≤ 140737488355328 := by
  unfold sealB
  split
  · simp
  · have := enc_len 10 (xs.length : Int)
    simp [frame, lead, headBytes, sumBytes]; omega
/-- Where it ends so. -/
def SealEnds (k : Int) (xs : List Int) (w : World) (e : Ending) (w' : World) : Prop :=
  ∃ a N c, e = .returned (.tuple #[.slice a N c, .int .i64 (sealE xs)]) ∧ Own w' (.slice a N c) (sealB k xs) ∧ Below w.heap.size w w'
theorem seal_ends (k : Int) (ao : Option Addr) (N cap : Nat) (xs : List Int) (w : World) (hN : N = xs.length) (hk0 : 0 ≤ k) (hk1 : k ≤ 255) (hl : xs.length ≤ 140737488355328) (hm : Magic w) (hr : RowAt w ao xs) (hn : ao = none → cap = 0) :
    Calls Tryd.prog 9 #[.int .u8 k, .slice ao N cap] w (SealEnds k xs w) := by
  by_cases h : 16777216 < xs.length
  · subst hN
    refine (seal_long k ao cap xs.length w hl h).mono ?_
    rintro e w' ⟨rfl, rfl⟩
    exact ⟨none, 0, 0, by simp [sealE, h], by simp [sealB, h]; exact Own.nil _, Below.refl _ _⟩
  · refine (seal_at k ao N cap xs w hN hk0 hk1 (by omega) hm hr hn).mono ?_
    rintro e w' ⟨g, M, c, rfl, ho, hg, hb⟩
    exact ⟨some ⟨g, 0, none⟩, M, c, by simp [sealE, h], by simp [sealB, h]; exact ho, hb⟩
theorem refseal_ends (k : Int) (ao : Option Addr) (N cap : Nat) (xs : List Int) (w : World) (hN : N = xs.length) (hk0 : 0 ≤ k) (hk1 : k ≤ 255) (hl : xs.length ≤ 140737488355328) (hr : RowAt w ao xs) (hn : ao = none → cap = 0) :
    Calls Tryd.prog 11 #[.int .u8 k, .slice ao N cap] w (SealEnds k xs w) := by
  by_cases h : 16777216 < xs.length
  · subst hN
    refine (refseal_long k ao cap xs.length w hl h).mono ?_
    rintro e w' ⟨rfl, rfl⟩
    exact ⟨none, 0, 0, by simp [sealE, h], by simp [sealB, h]; exact Own.nil _, Below.refl _ _⟩
  · refine (refseal_any k ao N cap xs w hN hk0 hk1 (by omega) hr hn).mono ?_
    rintro e w' ⟨g, M, c, rfl, ho, hg, hb⟩
    exact ⟨some ⟨g, 0, none⟩, M, c, by simp [sealE, h], by simp [sealB, h]; exact ho, hb⟩
theorem refopen_eq (k : Int) (ao : Option Addr) (N cap : Nat) (xs : List Int) (w : World) (body : List Int) (er at' : Int) (ho : openS k xs = (body, er, at')) (hN : N = xs.length) (hk0 : 0 ≤ k) (hk1 : k ≤ 255) (hl : xs.length ≤ 140737488355328) (hcap : xs.length ≤ cap) (hr : RowAt w ao xs) (hn : ao = none → cap = 0) :
    Calls Tryd.prog 13 #[.int .u8 k, .slice ao N cap] w fun e w' => ∃ a N c, e = .returned (.tuple #[.slice a N c, .int .i64 er, .int .i64 at']) ∧ Own w' (.slice a N c) body ∧ Below w.heap.size w w' := by
  refine (refopen_any k ao N cap xs w hN hk0 hk1 hl hcap hr hn).mono fun e w' ⟨v, he, hv, _, hb⟩ => ?_
  rw [ho] at he hv
  obtain ⟨a, M, c, rfl⟩ := own_slice hv
  exact ⟨a, M, c, he, hv, hb⟩
theorem openS_len (k : Int) (xs : List Int) : (openS k xs).1.length ≤ xs.length := by
  unfold openS
  repeat' split
  all_goals simp
  all_goals omega

abbrev gNew : Obj := .cells #[gNil, gNil, gNil, gNil, gNil, gNil, gNil, gNil, gNil, gNil, gNil, gNil, gNil, gNil, gNil, gNil, gNil, gNil, gNil, gNil, gNil, gNil] 35
theorem ginv_new (w : World) : GInv (w.alloc gNew) w.heap.size gNil gNil [] :=
  ⟨heap_alloc_new w _, GL.nil _, GL.nil _, fun k hk => by simp [Value.ownBlock] at hk, fun e he => by cases he⟩
theorem gnil_own (B : Nat) : ∀ k, gNil.ownBlock = some k → B ≤ k := fun k hk => by simp [Value.ownBlock] at hk
theorem gbytes_at (B q : Nat) (L W : Value) (es : List GE) (ao : Option Addr) (N cap : Nat) (xs : List Int) (w : World) (hN : N = xs.length) (hl : xs.length ≤ 140737488355300) (hr : RowAt w ao xs) (hG : GInv w q L W es) (hes : es.length ≤ 1000) (hB : B ≤ w.heap.size) (hq : B ≤ q) (hL : ∀ k, L.ownBlock = some k → B ≤ k) (hW : ∀ k, W.ownBlock = some k → B ≤ k) :
    Calls Tryd.prog 10 #[.pointer (some ⟨q, 0, none⟩), .slice ao N cap] w fun e w' => ∃ L' W' x g, e = .returned (.slice (some ⟨g, 0, none⟩) xs.length (xs.length + 3)) ∧ GInv w' q L' W' (es ++ [x]) ∧ RowAt w' (some ⟨g, 0, none⟩) xs ∧ (∀ v zs, Own w v zs → Own w' v zs) ∧ (∀ k, L'.ownBlock = some k → B ≤ k) ∧ (∀ k, W'.ownBlock = some k → B ≤ k) ∧ Below B w w' := by
  refine (gbytes q L W es ao N cap xs w hN hl hr hG hes).mono ?_
  rintro e w' ⟨rfl, L', W', x, hG', hr', hf⟩
  refine ⟨L', W', x, w.heap.size, rfl, hG', hr', fun v zs ho => hG.ownKept hf ho, fun k hk => ?_, fun k hk => ?_, hf.below hB hq hL hW⟩
  · rcases hf.ml with e | ⟨m, e, hm⟩
    · exact hL k (e ▸ hk)
    · rw [hk] at e; have := Option.some.inj e; omega
  · rcases hf.mw with e | ⟨m, e, hm⟩
    · exact hW k (e ▸ hk)
    · rw [hk] at e; have := Option.some.inj e; omega
theorem GI.stay {w w' : World} {q : Nat} {L W : Value} {ss tt : List Value} {es : List GE} (h : GI w q L W ss tt es) (hs : Still w w') : GI w' q L W ss tt es := h.later (hs _)

set_option maxRecDepth 100000 in
set_option maxHeartbeats 4000000 in
theorem frames_walk (k : Int) (ao bo : Option Addr) (ca cb : Nat) (xs ys : List Int) (w : World) (hk0 : 0 ≤ k) (hk1 : k ≤ 255) (hm : Magic w) (hx : xs.length ≤ 140737488351232) (hy : ys.length ≤ 140737488351232) (hr : RowAt w ao xs) (hs : RowAt w bo ys) (hna : ao = none → ca = 0) (hnb : bo = none → cb = 0) (hcb : ys.length ≤ cb) :
    Calls Tryd.prog 3 #[.int .u8 k, .slice ao xs.length ca, .slice bo ys.length cb] w fun e w' => e = .returned (.bool true) ∧ Below w.heap.size w w' := by
  obtain ⟨bd, er, at', ho⟩ : ∃ bd er at', openS k ys = (bd, er, at') := ⟨_, _, _, rfl⟩
  have HO : Hid (openS k ys = (bd, er, at')) := ho
  have HBD : Hid (bd.length ≤ 140737488355328) := by have := openS_len k ys; rw [ho] at this; show _ ≤ _; simp only at this; omega
  clear ho
  have HX : Hid (xs.length ≤ 140737488355300) := Nat.le_trans hx (by decide)
  have HX2 : Hid (xs.length ≤ 140737488355328) := Nat.le_trans hx (by decide)
  have HY : Hid (ys.length ≤ 140737488355300) := Nat.le_trans hy (by decide)
  have HY2 : Hid (ys.length ≤ 140737488355328) := Nat.le_trans hy (by decide)
  have HC : Hid (ys.length ≤ ys.length + 3) := Nat.le_add_right _ _
  have HRA : Hid (RowAt (w.alloc gNew) ao xs) := hr.later (below_alloc w _)
  have HB0 : Hid (w.heap.size ≤ (w.alloc gNew).heap.size) := (below_alloc w gNew).size
  have HE0 : Hid (([] : List GE).length ≤ 1000) := by show _ ≤ _; simp
  have HE1 : Hid (∀ x1 : GE, ([] ++ [x1]).length ≤ 1000) := fun x1 => by simp
  have HE2 : Hid (∀ x1 x4 : GE, ([] ++ [x1] ++ [x4]).length ≤ 1000) := fun x1 x4 => by simp
  go_enter Tryd.func3, Tryd.ntmps3
  go_wp2_with (first
    | (go_at_call 10; (with_reducible refine (gbytes_at w.heap.size w.heap.size gNil gNil [] ao xs.length ca xs (w.alloc gNew) rfl HX.out HRA.out (ginv_new w) HE0.out HB0.out (Nat.le_refl _) (gnil_own _) (gnil_own _)).mono ?_); rintro e w1 ⟨L1, W1, x1, g1, rfl, hG1, hr1, hk1', hL1, hW1, hb1'⟩; have hb1 := (below_alloc w gNew).trans hb1'; have hm1 := hm.later hb1 hm.lt; clear hk1' hb1')
    | (go_at_call 9; (with_reducible refine (seal_ends k (some ⟨g1, 0, none⟩) xs.length (xs.length + 3) xs w1 rfl hk0 hk1 HX2.out hm1 hr1 no_nil).mono ?_); rintro e w2 ⟨a2, N2, c2, rfl, ho2, hb2'⟩; have hG2 := hG1.later hb2'; have hb2 := hb1.trans (hb2'.mono hb1.size); have hr2 := hr.later hb2; clear hG1 hb2' hm1 hr1 hb1)
    | (go_at_call 11; (with_reducible refine (refseal_ends k ao xs.length ca xs w2 rfl hk0 hk1 HX2.out hr2 hna).mono ?_); rintro e w3 ⟨a3, N3, c3, rfl, ho3, hb3'⟩; have ho23 := ho2.later hb3'; have hG3 := hG2.later hb3'; have hb3 := hb2.trans (hb3'.mono hb2.size); have hs3 := hs.later hb3; clear ho2 hG2 hb3' hr2 hb2)
    | (go_at_call 10; (with_reducible refine (gbytes_at w.heap.size w.heap.size L1 W1 ([] ++ [x1]) bo ys.length cb ys w3 rfl HY.out hs3 hG3 (HE1.out x1) hb3.size (Nat.le_refl _) hL1 hW1).mono ?_); rintro e w4 ⟨L4, W4, x4, g4, rfl, hG4, hr4, hk4', hL4, hW4, hb4'⟩; have ho24 := hk4' _ _ ho23; have ho34 := hk4' _ _ ho3; have hb4 := hb3.trans hb4'; have hm4 := hm.later hb4 hm.lt; clear hk4' hb4' hG3 hs3 ho23 ho3 hb3 hL1 hW1)
    | (go_at_call 12; (with_reducible refine (open_eq k (some ⟨g4, 0, none⟩) ys.length (ys.length + 3) ys w4 bd er at' HO.out rfl hk0 hk1 HY2.out HC.out hm4 hr4).mono ?_); rintro e w5 ⟨a5, N5, c5, rfl, ho5, hn5, hb5'⟩; have ho25 := ho24.later hb5'; have ho35 := ho34.later hb5'; have hG5 := hG4.later hb5'; have hb5 := hb4.trans (hb5'.mono hb4.size); have hs5 := hs.later hb5; clear ho24 ho34 hG4 hb5' hn5 hm4 hr4 hb4)
    | (go_at_call 13; (with_reducible refine (refopen_eq k bo ys.length cb ys w5 bd er at' HO.out rfl hk0 hk1 HY2.out hcb hs5 hnb).mono ?_); rintro e w6 ⟨a6, N6, c6, rfl, ho6, hb6'⟩; have ho26 := ho25.later hb6'; have ho36 := ho35.later hb6'; have ho56 := ho5.later hb6'; have hG6 := hG5.later hb6'; have hb6 := hb5.trans (hb6'.mono hb5.size); have hr6 := hr.later hb6; have OL2 : Hid _ := own_len ho26; have OL3 : Hid _ := own_len ho36; clear ho25 ho35 hG5 hb6' hs5 ho5 hb5 ho26 ho36)
    | (go_at_call 14; (with_reducible refine (sum_at ao xs.length ca xs w6 rfl HX2.out hr6).mono ?_); rintro e w7 ⟨rfl, rfl⟩)
    | (go_at_call 15; (with_reducible refine (refsum_at ao xs.length ca xs w6 rfl HX2.out hr6).mono ?_); rintro e w7 ⟨rfl, rfl⟩)
    | (go_at_call 16; (with_reducible refine (same_true a2 a3 N2 N3 c2 c3 (sealB k xs) w6 OL2.out.1 OL3.out.1 (sealB_len k xs) OL2.out.2.1 OL3.out.2.1).mono ?_); rintro e w7 ⟨rfl, hs7⟩; have ho57 := hs7.own ho56; have ho67 := hs7.own ho6; have hG7 := hG6.stay hs7; have hb7 := hb6.trans (hs7 _); have OL5 : Hid _ := own_len ho57; have OL6 : Hid _ := own_len ho67; clear hs7 hG6 hb6 hr6 ho56 ho6 ho57 ho67)
    | (go_at_call 17; (with_reducible refine (num_any (sealE xs) w7).mono ?_); rintro e w8 ⟨rfl, rfl⟩)
    | (go_at_call 16; (with_reducible refine (same_true a5 a6 N5 N6 c5 c6 bd w7 OL5.out.1 OL6.out.1 HBD.out OL5.out.2.1 OL6.out.2.1).mono ?_); rintro e w8 ⟨rfl, hs8⟩; have hG8 := hG7.stay hs8; have hb8 := hb7.trans (hs8 _); clear hs8 hG7 hb7)
    | (go_at_call 17; (with_reducible refine (num_any er w8).mono ?_); rintro e w9 ⟨rfl, rfl⟩)
    | (go_at_call 18; (with_reducible refine (intact_any w.heap.size L4 W4 ([] ++ [x1] ++ [x4]) w8 hG8 (HE2.out x1 x4)).mono ?_); rintro e w9 ⟨rfl, hs9⟩; have hb9 := hb8.trans (hs9 _); have hm9 := hm.later hb9 hm.lt)
    | (go_at_call 19; (with_reducible refine (alive_any w9 hm9).mono ?_); rintro e w10 ⟨rfl, hb10⟩; have hb11 := hb9.trans (hb10.mono hb9.size)))
  go_ret
  exact ⟨rfl, hb11⟩
end Go.Proofs.YtgaoahifblifoaaDoor
