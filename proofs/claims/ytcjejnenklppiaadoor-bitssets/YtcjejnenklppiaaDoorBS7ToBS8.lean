import Derived.Test.YtcjejnenklppiaaDoorBS5
import Derived.Deep.DeepCutAuto
import Derived.RegionTactic
import Derived.BigRegion
namespace Go.Proofs.YtcjejnenklppiaaDoor
set_option linter.unusedVariables false
open Go.RowKit Go.Shelf

theorem add_put (N m : Nat) (x : Int) : (decide (0 ≤ x ∧ x < (m : Int)) && !N.testBit x.toNat) = putD N m x true ∧ addX N m x = putX N m x true := by
  unfold putD putX addX putN
  refine ⟨?_, rfl⟩
  congr 1
  cases N.testBit x.toNat <;> rfl
theorem remove_put {w : World} {k m N : Nat} (h : SB w k m N) (x : Int) : Calls Tryd.prog 9 #[.pointer (some ⟨k + 1, 0, none⟩), .int .i64 x] w fun e w' => e = .returned (.bool (putD N m x false)) ∧ SB w' k m (putX N m x false) ∧ FrB (· = k) w w' := by
  by_cases hx : 0 ≤ x ∧ x < (m : Int)
  · obtain ⟨n, rfl⟩ : ∃ n : Nat, x = (n : Int) := ⟨x.toNat, by omega⟩
    have e1 : putX N m (n : Int) false = remN N n := by unfold putX; rw [if_pos hx]; rfl
    have e2 : putD N m (n : Int) false = N.testBit n := by
      unfold putD
      rw [decide_eq_true hx, Bool.true_and, Int.toNat_natCast]
      cases N.testBit n <;> rfl
    rw [e1, e2]
    cases hb : N.testBit n with
    | true => exact remove_in h n (by omega) hb
    | false =>
      refine (remove_out h (n : Int) (by rw [hasB_nat h.lt]; exact hb)).mono fun e w' ⟨q1, q2⟩ => ⟨q1, ?_, Below.frB q2⟩
      have : remN N n = N := putN_same (b := false) hb
      rw [this]
      exact h.later q2
  · have e1 : putX N m x false = N := by unfold putX; rw [if_neg hx]
    have e2 : putD N m x false = false := by unfold putD; rw [decide_eq_false hx, Bool.false_and]
    rw [e1, e2]
    refine (remove_out h x (by
      unfold hasB
      by_cases g : 0 ≤ x
      · rw [decide_eq_false (show ¬ x < (m : Int) from fun q => hx ⟨g, q⟩), Bool.and_false, Bool.false_and]
      · rw [decide_eq_false g, Bool.false_and, Bool.false_and])).mono fun e w' ⟨q1, q2⟩ => ⟨q1, h.later q2, Below.frB q2⟩
theorem add_putB {w : World} {k m N : Nat} (h : SB w k m N) (x : Int) : Calls Tryd.prog 7 #[.pointer (some ⟨k + 1, 0, none⟩), .int .i64 x] w fun e w' => e = .returned (.bool (putD N m x true)) ∧ SB w' k m (putX N m x true) ∧ FrB (· = k) w w' := by
  have := add_SB h x
  rwa [(add_put N m x).1, (add_put N m x).2] at this
theorem mod_bit (X m : Nat) {j : Nat} (h : j < m) : (X % 2 ^ m).testBit j = X.testBit j := by
  rw [Nat.testBit_mod_two_pow, decide_eq_true h, Bool.true_and]
theorem union_bits (N M m : Nat) : (N ||| M) % 2 ^ m < 2 ^ m ∧ ∀ j, j < m → ((N ||| M) % 2 ^ m).testBit j = (N.testBit j || M.testBit j) := ⟨Nat.mod_lt _ (Nat.two_pow_pos _), fun j hj => by rw [mod_bit _ _ hj, Nat.testBit_or]⟩
theorem meet_bits (N M m : Nat) : (N &&& M) % 2 ^ m < 2 ^ m ∧ ∀ j, j < m → ((N &&& M) % 2 ^ m).testBit j = (N.testBit j && M.testBit j) := ⟨Nat.mod_lt _ (Nat.two_pow_pos _), fun j hj => by rw [mod_bit _ _ hj, Nat.testBit_and]⟩
theorem minus_bits (N M m : Nat) : (minusB N M) % 2 ^ m < 2 ^ m ∧ ∀ j, j < m → ((minusB N M) % 2 ^ m).testBit j = (N.testBit j && !M.testBit j) := ⟨Nat.mod_lt _ (Nat.two_pow_pos _), fun j hj => by rw [mod_bit _ _ hj, minusB_bit]⟩
theorem own_union {N m : Nat} (h : N < 2 ^ m) : (N ||| N) % 2 ^ m = N := by rw [Nat.or_self, Nat.mod_eq_of_lt h]
theorem own_meet {N m : Nat} (h : N < 2 ^ m) : (N &&& N) % 2 ^ m = N := by rw [Nat.and_self, Nat.mod_eq_of_lt h]
theorem own_minus (N m : Nat) : minusB N N % 2 ^ m = 0 := by
  have : minusB N N = 0 := minus_zeroB.2 fun _ h => h
  rw [this, Nat.zero_mod]
/-- Some number is in just where the set is not empty. -/
theorem pop_some {N m : Nat} (h : N < 2 ^ m) : decide (0 < popB N m) = decide (0 ≠ N) := by
  apply decide_eq_decide.2
  constructor
  · intro q e
    subst e
    rw [← bitsL_len] at q
    have : bitsL 0 m = [] := by simp [bitsL, bitsU]
    rw [this] at q
    simp at q
  · intro q
    apply Classical.byContradiction
    intro g
    apply q
    have g0 : (bitsL N m).length = 0 := by rw [bitsL_len]; omega
    have g1 : bitsU N m = [] := by
      have : (bitsU N m).length = 0 := by simpa [bitsL] using g0
      exact List.eq_nil_of_length_eq_zero this
    apply bit_ext
    intro j
    rw [Nat.zero_testBit]
    by_cases e : j < m
    · cases hb : N.testBit j with
      | false => rfl
      | true =>
        have : j ∈ bitsU N m := List.mem_filter.2 ⟨List.mem_range.2 e, hb⟩
        rw [g1] at this
        cases this
    · exact (bit_far h (by omega)).symm
theorem and_one (x : Int) : bits .and .i64 x 1 = x % 2 := by
  have h1 : (BitVec.ofInt 64 x &&& BitVec.ofInt 64 1).toNat = (x % 2).toNat := by
    rw [BitVec.toNat_and, BitVec.toNat_ofInt, show (BitVec.ofInt 64 1).toNat = 1 from rfl, Nat.and_one_is_mod]
    omega
  show IntKind.i64.wrap ((BitVec.ofInt 64 x &&& BitVec.ofInt 64 1).toNat : Int) = _
  rw [h1, IntKind.wrap_i64]
  omega
end Go.Proofs.YtcjejnenklppiaaDoor
namespace Go.Proofs.YtcjejnenklppiaaDoor
set_option linter.unusedVariables false
open Go.RowKit Go.Shelf

def firstLoopB : Code → Option Code
  | .loop c => some c
  | .seq a b => match firstLoopB a with
    | some c => some c
    | none => firstLoopB b
  | .block _ c => firstLoopB c
  | .scope c => firstLoopB c
  | .cond _ a b => match firstLoopB a with
    | some c => some c
    | none => firstLoopB b
  | _ => none
noncomputable def bodyS : Code := ((Tryd.f3.body.bind firstLoopB).getD .skip)
set_option maxRecDepth 1000000 in
/-- The steps' loop. -/
def WIS (w : World) (m n : Nat) (la : Option Addr) (lc : Nat) (L : List (Int × Int × Int)) (ks km : Nat) (KB KH M : Nat → Nat) (c3 c4 c5 c6 c7 c8 c9 c10 c24 c25 c26 c27 c28 c29 c30 c31 c32 c33 c34 c35 c36 c37 c38 c39 c40 c41 c42 c43 c44 c45 c46 c47 c48 c49 c50 c51 c52 c53 c54 c55 c56 c57 c58 c59 c60 c61 c62 c63 c64 c65 c66 c67 c68 c69 c70 c71 c72 c73 c74 c75 c76 c77 c78 c79 c80 c81 c82 c83 c84 c85 c86 c87 c88 c89 c90 c91 c92 c93 c94 c95 c96 c97 c98 c99 c100 c101 c102 c103 c104 c105 c106 c107 c336 : Value) (a : Act) (w' : World) : Prop := ∃ u14 u15 u16 u17 u18 u19 u20 u21 u22 u23 u108 u109 u110 u111 u112 u113 u114 u115 u116 u117 u118 u119 u120 u121 u122 u123 u124 u125 u126 u127 u128 u129 u130 u131 u132 u133 u134 u135 u136 u137 u138 u139 u140 u141 u142 u143 u144 u145 u146 u147 u148 u149 u150 u151 u152 u153 u154 u155 u156 u157 u158 u159 u160 u161 u162 u163 u164 u165 u166 u167 u168 u169 u170 u171 u172 u173 u174 u175 u176 u177 u178 u179 u180 u181 u182 u183 u184 u185 u186 u187 u188 u189 u190 u191 u192 u193 u194 u195 u196 u197 u198 u199 u200 u201 u202 u203 u204 u205 u206 u207 u208 u209 u210 u211 u212 u213 u214 u215 u216 u217 u218 u219 u220 u221 u222 u223 u224 u225 u226 u227 u228 u229 u230 u231 u232 u233 u234 u235 u236 u237 u238 u239 u240 u241 u242 u243 u244 u245 u246 u247 u248 u249 u250 u251 u252 u253 u254 u255 u256 u257 u258 u259 u260 u261 u262 u263 u264 u265 u266 u267 u268 u269 u270 u271 u272 u273 u274 u275 u276 u277 u278 u279 u280 u281 u282 u283 u284 u285 u286 u287 u288 u289 u290 u291 u292 u293 u294 u295 u296 u297 u298 u299 u300 u301 u302 u303 u304 u305 u306 u307 u308 u309 u310 u311 u312 u313 u314 u315 u316 u317 u318 u319 u320 u321 u322 u323 u324 u325 u326 u327 u328 u329 u330 u331 u332 u333 u334 u335 : Value, ∃ (i : Nat) (K S : Nat → Nat), (i ≤ L.length ∧ TwB w ks km K KB KH M S S w') ∧ a = ⟨#[.int .i64 (m : Int), .int .i64 (n : Int), .slice la L.length lc, c3, c4, c5, c6, c7, c8, c9, c10, .slice (some ⟨ks, 0, none⟩) 2 2, .slice (some ⟨km, 0, none⟩) 2 2, (.int .i64 (i : Int)), u14, u15, u16, u17, u18, u19, u20, u21, u22, u23, c24, c25, c26, c27, c28, c29, c30, c31, c32, c33, c34, c35, c36, c37, c38, c39, c40, c41, c42, c43, c44, c45, c46, c47, c48, c49, c50, c51, c52, c53, c54, c55, c56, c57, c58, c59, c60, c61, c62, c63, c64, c65, c66, c67, c68, c69, c70, c71, c72, c73, c74, c75, c76, c77, c78, c79, c80, c81, c82, c83, c84, c85, c86, c87, c88, c89, c90, c91, c92, c93, c94, c95, c96, c97, c98, c99, c100, c101, c102, c103, c104, c105, c106, c107, u108, u109, u110, u111, u112, u113, u114, u115, u116, u117, u118, u119, u120, u121, u122, u123, u124, u125, u126, u127, u128, u129, u130, u131, u132, u133, u134, u135, u136, u137, u138, u139, u140, u141, u142, u143, u144, u145, u146, u147, u148, u149, u150, u151, u152, u153, u154, u155, u156, u157, u158, u159, u160, u161, u162, u163, u164, u165, u166, u167, u168, u169, u170, u171, u172, u173, u174, u175, u176, u177, u178, u179, u180, u181, u182, u183, u184, u185, u186, u187, u188, u189, u190, u191, u192, u193, u194, u195, u196, u197, u198, u199, u200, u201, u202, u203, u204, u205, u206, u207, u208, u209, u210, u211, u212, u213, u214, u215, u216, u217, u218, u219, u220, u221, u222, u223, u224, u225, u226, u227, u228, u229, u230, u231, u232, u233, u234, u235, u236, u237, u238, u239, u240, u241, u242, u243, u244, u245, u246, u247, u248, u249, u250, u251, u252, u253, u254, u255, u256, u257, u258, u259, u260, u261, u262, u263, u264, u265, u266, u267, u268, u269, u270, u271, u272, u273, u274, u275, u276, u277, u278, u279, u280, u281, u282, u283, u284, u285, u286, u287, u288, u289, u290, u291, u292, u293, u294, u295, u296, u297, u298, u299, u300, u301, u302, u303, u304, u305, u306, u307, u308, u309, u310, u311, u312, u313, u314, u315, u316, u317, u318, u319, u320, u321, u322, u323, u324, u325, u326, u327, u328, u329, u330, u331, u332, u333, u334, u335, c336], []⟩
def muS (L : List (Int × Int × Int)) (a : Act) (_ : World) : Nat := L.length - (intOf (a.tmps.getD 13 undef)).toNat
def StS (L : List (Int × Int × Int)) (i : Nat) (x y z : Int) : Prop := L.getD i (0, 0, 0) = (x, y, z)
theorem which_two (y : Int) : ∃ c d : Nat, y % 2 = (c : Int) ∧ 1 - (c : Int) = (d : Int) ∧ c < 2 ∧ d < 2 ∧ c ≠ d := by
  have h0 := Int.emod_nonneg y (show (2 : Int) ≠ 0 by decide)
  have h1 := Int.emod_lt_of_pos y (show (0 : Int) < 2 by decide)
  exact ⟨(y % 2).toNat, (1 - y % 2).toNat, by omega, by omega, by omega, by omega, by omega⟩
theorem xor_two (N M : Nat) : decide (N ^^^ M = 0) = (decide (minusB N M = 0) && decide (minusB M N = 0)) := by
  rw [Bool.eq_iff_iff, Bool.and_eq_true, decide_eq_true_iff, decide_eq_true_iff, decide_eq_true_iff, minus_zeroB, minus_zeroB]
  constructor
  · intro h
    have e : N = M := by
      apply Nat.eq_of_testBit_eq
      intro j
      have := congrArg (fun x => Nat.testBit x j) h
      simp only [Nat.testBit_xor, Nat.zero_testBit] at this
      cases a : N.testBit j <;> cases b : M.testBit j <;> simp_all
    subst e
    exact ⟨fun j q => q, fun j q => q⟩
  · rintro ⟨h1, h2⟩
    apply Nat.eq_of_testBit_eq
    intro j
    rw [Nat.testBit_xor, Nat.zero_testBit]
    have a := h1 j
    have b := h2 j
    cases p : N.testBit j <;> cases q : M.testBit j <;> simp_all
end Go.Proofs.YtcjejnenklppiaaDoor
