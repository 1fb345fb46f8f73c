import Derived.Test.YtcjejnenklppiaaDoorBS7ToBS8
namespace Go.Proofs.YtcjejnenklppiaaDoor
set_option linter.unusedVariables false
open Go.RowKit Go.Shelf

set_option maxRecDepth 1000000 in
set_option maxHeartbeats 16000000 in
theorem sets_w6 {w : World} (m n : Nat) (la : Option Addr) (lc : Nat) (L : List (Int × Int × Int)) (ks km : Nat) (KB KH M : Nat → Nat) (hLl : L.length ≤ 140737488355328) (HL : Hid (StpB w la L)) (HT : Hid (TabB w)) (c3 c4 c5 c6 c7 c8 c9 c10 c24 c25 c26 c27 c28 c29 c30 c31 c32 c33 c34 c35 c36 c37 c38 c39 c40 c41 c42 c43 c44 c45 c46 c47 c48 c49 c50 c51 c52 c53 c54 c55 c56 c57 c58 c59 c60 c61 c62 c63 c64 c65 c66 c67 c68 c69 c70 c71 c72 c73 c74 c75 c76 c77 c78 c79 c80 c81 c82 c83 c84 c85 c86 c87 c88 c89 c90 c91 c92 c93 c94 c95 c96 c97 c98 c99 c100 c101 c102 c103 c104 c105 c106 c107 c336 : Value) (u14 u15 u16 u17 u18 u19 u20 u21 u22 u23 u108 u109 u110 u111 u112 u113 u114 u115 u116 u117 u118 u119 u120 u121 u122 u123 u124 u125 u126 u127 u128 u129 u130 u131 u132 u133 u134 u135 u136 u137 u138 u139 u140 u141 u142 u143 u144 u145 u146 u147 u148 u149 u150 u151 u152 u153 u154 u155 u156 u157 u158 u159 u160 u161 u162 u163 u164 u165 u166 u167 u168 u169 u170 u171 u172 u173 u174 u175 u176 u177 u178 u179 u180 u181 u182 u183 u184 u185 u186 u187 u188 u189 u190 u191 u192 u193 u194 u195 u196 u197 u198 u199 u200 u201 u202 u203 u204 u205 u206 u207 u208 u209 u210 u211 u212 u213 u214 u215 u216 u217 u218 u219 u220 u221 u222 u223 u224 u225 u226 u227 u228 u229 u230 u231 u232 u233 u234 u235 u236 u237 u238 u239 u240 u241 u242 u243 u244 u245 u246 u247 u248 u249 u250 u251 u252 u253 u254 u255 u256 u257 u258 u259 u260 u261 u262 u263 u264 u265 u266 u267 u268 u269 u270 u271 u272 u273 u274 u275 u276 u277 u278 u279 u280 u281 u282 u283 u284 u285 u286 u287 u288 u289 u290 u291 u292 u293 u294 u295 u296 u297 u298 u299 u300 u301 u302 u303 u304 u305 u306 u307 u308 u309 u310 u311 u312 u313 u314 u315 u316 u317 u318 u319 u320 u321 u322 u323 u324 u325 u326 u327 u328 u329 u330 u331 u332 u333 u334 u335 : Value) (i : Nat) (hlt : i < L.length) (K S : Nat → Nat) (wr : World) (HTw : Hid (TwB w ks km K KB KH M S S wr)) (x y z : Int) (hxyz : L.getD i (0, 0, 0) = (x, y, z)) (Q0 : Exit → Act → World → Prop) (hx : x = 6) (hQp : ∀ c (a : Act) d v w, Q0 (.panic c) (a.put d v) w → Q0 (.panic c) a w) :
    Code.wp Tryd.prog bodyS (Exit.then (fun a' w'' => WIS w m n la lc L ks km KB KH M c3 c4 c5 c6 c7 c8 c9 c10 c24 c25 c26 c27 c28 c29 c30 c31 c32 c33 c34 c35 c36 c37 c38 c39 c40 c41 c42 c43 c44 c45 c46 c47 c48 c49 c50 c51 c52 c53 c54 c55 c56 c57 c58 c59 c60 c61 c62 c63 c64 c65 c66 c67 c68 c69 c70 c71 c72 c73 c74 c75 c76 c77 c78 c79 c80 c81 c82 c83 c84 c85 c86 c87 c88 c89 c90 c91 c92 c93 c94 c95 c96 c97 c98 c99 c100 c101 c102 c103 c104 c105 c106 c107 c336 a' w'' ∧ muS L a' w'' < muS L ⟨#[.int .i64 (m : Int), .int .i64 (n : Int), .slice la L.length lc, c3, c4, c5, c6, c7, c8, c9, c10, .slice (some ⟨ks, 0, none⟩) 2 2, .slice (some ⟨km, 0, none⟩) 2 2, (.int .i64 (i : Int)), u14, u15, u16, u17, u18, u19, u20, u21, u22, u23, c24, c25, c26, c27, c28, c29, c30, c31, c32, c33, c34, c35, c36, c37, c38, c39, c40, c41, c42, c43, c44, c45, c46, c47, c48, c49, c50, c51, c52, c53, c54, c55, c56, c57, c58, c59, c60, c61, c62, c63, c64, c65, c66, c67, c68, c69, c70, c71, c72, c73, c74, c75, c76, c77, c78, c79, c80, c81, c82, c83, c84, c85, c86, c87, c88, c89, c90, c91, c92, c93, c94, c95, c96, c97, c98, c99, c100, c101, c102, c103, c104, c105, c106, c107, u108, u109, u110, u111, u112, u113, u114, u115, u116, u117, u118, u119, u120, u121, u122, u123, u124, u125, u126, u127, u128, u129, u130, u131, u132, u133, u134, u135, u136, u137, u138, u139, u140, u141, u142, u143, u144, u145, u146, u147, u148, u149, u150, u151, u152, u153, u154, u155, u156, u157, u158, u159, u160, u161, u162, u163, u164, u165, u166, u167, u168, u169, u170, u171, u172, u173, u174, u175, u176, u177, u178, u179, u180, u181, u182, u183, u184, u185, u186, u187, u188, u189, u190, u191, u192, u193, u194, u195, u196, u197, u198, u199, u200, u201, u202, u203, u204, u205, u206, u207, u208, u209, u210, u211, u212, u213, u214, u215, u216, u217, u218, u219, u220, u221, u222, u223, u224, u225, u226, u227, u228, u229, u230, u231, u232, u233, u234, u235, u236, u237, u238, u239, u240, u241, u242, u243, u244, u245, u246, u247, u248, u249, u250, u251, u252, u253, u254, u255, u256, u257, u258, u259, u260, u261, u262, u263, u264, u265, u266, u267, u268, u269, u270, u271, u272, u273, u274, u275, u276, u277, u278, u279, u280, u281, u282, u283, u284, u285, u286, u287, u288, u289, u290, u291, u292, u293, u294, u295, u296, u297, u298, u299, u300, u301, u302, u303, u304, u305, u306, u307, u308, u309, u310, u311, u312, u313, u314, u315, u316, u317, u318, u319, u320, u321, u322, u323, u324, u325, u326, u327, u328, u329, u330, u331, u332, u333, u334, u335, c336], []⟩ wr) Q0) ⟨#[.int .i64 (m : Int), .int .i64 (n : Int), .slice la L.length lc, c3, c4, c5, c6, c7, c8, c9, c10, .slice (some ⟨ks, 0, none⟩) 2 2, .slice (some ⟨km, 0, none⟩) 2 2, (.int .i64 (i : Int)), u14, u15, u16, u17, u18, u19, u20, u21, u22, u23, c24, c25, c26, c27, c28, c29, c30, c31, c32, c33, c34, c35, c36, c37, c38, c39, c40, c41, c42, c43, c44, c45, c46, c47, c48, c49, c50, c51, c52, c53, c54, c55, c56, c57, c58, c59, c60, c61, c62, c63, c64, c65, c66, c67, c68, c69, c70, c71, c72, c73, c74, c75, c76, c77, c78, c79, c80, c81, c82, c83, c84, c85, c86, c87, c88, c89, c90, c91, c92, c93, c94, c95, c96, c97, c98, c99, c100, c101, c102, c103, c104, c105, c106, c107, u108, u109, u110, u111, u112, u113, u114, u115, u116, u117, u118, u119, u120, u121, u122, u123, u124, u125, u126, u127, u128, u129, u130, u131, u132, u133, u134, u135, u136, u137, u138, u139, u140, u141, u142, u143, u144, u145, u146, u147, u148, u149, u150, u151, u152, u153, u154, u155, u156, u157, u158, u159, u160, u161, u162, u163, u164, u165, u166, u167, u168, u169, u170, u171, u172, u173, u174, u175, u176, u177, u178, u179, u180, u181, u182, u183, u184, u185, u186, u187, u188, u189, u190, u191, u192, u193, u194, u195, u196, u197, u198, u199, u200, u201, u202, u203, u204, u205, u206, u207, u208, u209, u210, u211, u212, u213, u214, u215, u216, u217, u218, u219, u220, u221, u222, u223, u224, u225, u226, u227, u228, u229, u230, u231, u232, u233, u234, u235, u236, u237, u238, u239, u240, u241, u242, u243, u244, u245, u246, u247, u248, u249, u250, u251, u252, u253, u254, u255, u256, u257, u258, u259, u260, u261, u262, u263, u264, u265, u266, u267, u268, u269, u270, u271, u272, u273, u274, u275, u276, u277, u278, u279, u280, u281, u282, u283, u284, u285, u286, u287, u288, u289, u290, u291, u292, u293, u294, u295, u296, u297, u298, u299, u300, u301, u302, u303, u304, u305, u306, u307, u308, u309, u310, u311, u312, u313, u314, u315, u316, u317, u318, u319, u320, u321, u322, u323, u324, u325, u326, u327, u328, u329, u330, u331, u332, u333, u334, u335, c336], []⟩ wr := by
  subst hx
  have ilt : (i : Int) < (L.length : Int) := by omega
  obtain ⟨c, d, hc1, hd1, hc, hd, hcd⟩ := which_two y
  have hand : bits .and .i64 y 1 = (c : Int) := (and_one y).trans hc1
  have hsub : IntKind.i64.wrap (1 - (c : Int)) = (d : Int) := by rw [hd1, IntKind.wrap_i64]; omega
  have clt : (c : Int) < 2 := by omega
  have dlt : (d : Int) < 2 := by omega
  obtain ⟨lb, lo, hla, hlb, hcell⟩ := (HL.out.later HTw.out.bel) (by intro q; rw [q] at hlt; simp at hlt)
  obtain ⟨e0, e1, e2⟩ := hcell i hlt
  rw [hxyz] at e0 e1 e2
  simp only at e0 e1 e2
  subst hla
  have LC : Hid (∀ wq, Below w.heap.size w wq → wq.cell? ⟨lb, lo + i * 3, none⟩ = some (.int .i64 6) ∧ wq.cell? ⟨lb, lo + i * 3 + 1, none⟩ = some (.int .i64 y) ∧ wq.cell? ⟨lb, lo + i * 3 + 2, none⟩ = some (.int .i64 z)) := fun wq b => by
    obtain ⟨lb', lo', e', _, hc'⟩ := (HL.out.later b) (by intro q; rw [q] at hlt; simp at hlt)
    simp only [Option.some.injEq, Addr.mk.injEq, and_true] at e'
    obtain ⟨rfl, rfl⟩ := e'
    have := hc' i hlt
    rw [hxyz] at this
    exact this
  have HX : Hid (L.getD i (0, 0, 0) = (6, y, z)) := hxyz
  obtain ⟨s1, s3⟩ := HTw.out.cell hc
  obtain ⟨s2, s4⟩ := HTw.out.cell hd
  have BR : Hid (Below wr.heap.size wr wr.drew) := (Below.refl _ _).drew
  have C1 : Hid (∀ wq, Below wr.heap.size wr wq → wq.cell? ⟨ks, c, none⟩ = some (.pointer (some ⟨K c + 1, 0, none⟩))) := fun wq b => cellL s1 b
  have C2 : Hid (∀ wq, Below wr.heap.size wr wq → wq.cell? ⟨ks, d, none⟩ = some (.pointer (some ⟨K d + 1, 0, none⟩))) := fun wq b => cellL s2 b
  have C3 : Hid (∀ wq, Below wr.heap.size wr wq → wq.cell? ⟨km, c, none⟩ = some (.pointer (some ⟨KH c, 0, none⟩))) := fun wq b => cellL s3 b
  have C4 : Hid (∀ wq, Below wr.heap.size wr wq → wq.cell? ⟨km, d, none⟩ = some (.pointer (some ⟨KH d, 0, none⟩))) := fun wq b => cellL s4 b
  clear hcell hlb hxyz s1 s2 s3 s4 hc1 hd1
  conv => arg 2; whnf
  go_wp2
  refine wp_region_q (C := fun wq => Below wr.heap.size wr wq) (by kernel_rfl) (by kernel_rfl) BR.out ?_
  iterate 22 (refine qt_yes (v := ?_) (by rfl) ?_ ?_; rotate_left; (· (intro wq hSw; have f0 := C1.out wq hSw; have f1 := C2.out wq hSw; have f2 := C3.out wq hSw; have f3 := C4.out wq hSw; clear hSw; go_simp; with_reducible rfl)); (try simp only [Act.put, List.setIfInBounds_toArray, List.set_cons_zero, List.set_cons_succ]))
  refine qt_nil ?_
  intro wq hSw
  have TQ : Hid (TwB w ks km K KB KH M S S wq) := HTw.out.later hSw
  obtain ⟨e0, e1, e2⟩ := LC.out wq TQ.out.bel
  clear hSw BR C1 C2 C3 C4 HTw
  have SA : Hid (Calls Tryd.prog 16 #[.pointer (some ⟨K c + 1, 0, none⟩), .pointer (some ⟨K d + 1, 0, none⟩)] wq fun e w' => e = .returned (.bool (decide (S c ^^^ S d = 0))) ∧ w' = wq) := same_SB (TQ.out.sb c hc) (TQ.out.sb d hd)
  have WI : Hid (Calls Tryd.prog 18 #[.pointer (some ⟨K c + 1, 0, none⟩), .pointer (some ⟨K d + 1, 0, none⟩)] wq fun e w' => e = .returned (.bool (decide (minusB (S c) (S d) = 0))) ∧ w' = wq) := within_SB (TQ.out.sb c hc) (TQ.out.sb d hd)
  have WM : Hid (∀ (p q : Nat) (bv : Bool), (p = KH c ∧ q = KH d ∧ bv = decide (minusB (S c) (S d) = 0)) ∨ (p = KH d ∧ q = KH c ∧ bv = decide (minusB (S d) (S c) = 0)) → Calls Tryd.prog 17 #[.pointer (some ⟨p, 0, none⟩), .pointer (some ⟨q, 0, none⟩)] wq fun e w' => e = .returned (.bool bv) ∧ w' = wq) := fun p q bv h => by
    rcases h with ⟨rfl, rfl, rfl⟩ | ⟨rfl, rfl, rfl⟩
    · exact within_M (TQ.out.mb c hc) (TQ.out.mb d hd)
    · exact within_M (TQ.out.mb d hd) (TQ.out.mb c hc)
  have hxor : decide (S c ^^^ S d = 0) = (decide (minusB (S c) (S d) = 0) && decide (minusB (S d) (S c) = 0)) := xor_two (S c) (S d)
  rw [hxor] at SA
  generalize decide (minusB (S c) (S d) = 0) = b1 at *
  generalize decide (minusB (S d) (S c) = 0) = b2 at *
  clear hxor
  cases b1 <;> cases b2
  · go_upto_region 45 with (first
      | (go_at_call 16; refine SA.out.mono ?_; rintro e w3 ⟨rfl, hz⟩; rw [hz]; clear hz w3)
      | (go_at_call 18; refine WI.out.mono ?_; rintro e w3 ⟨rfl, hz⟩; rw [hz]; clear hz w3)
      | (go_at_call 17; refine (WM.out _ _ _ (by first | (with_reducible exact Or.inl ⟨rfl, rfl, rfl⟩) | (with_reducible exact Or.inr ⟨rfl, rfl, rfl⟩))).mono ?_; rintro e w3 ⟨rfl, hz⟩; rw [hz]; clear hz w3))
    obtain ⟨wt, rfl⟩ : ∃ wt : World, wt = wq := ⟨_, rfl⟩
    obtain ⟨K1, S1, TZ⟩ : ∃ K1 S1 : Nat → Nat, Hid (TwB w ks km K1 KB KH M S1 S1 wt) := ⟨_, _, TQ.out⟩
    clear TQ e0 e1 e2 SA WI WM
    have TZ0 := TZ.out.cell (show 0 < 2 by decide)
    have TZ1 := TZ.out.cell (show 1 < 2 by decide)
    have BR : Hid (Below wt.heap.size wt wt.drew) := (Below.refl _ _).drew
    have C1 : Hid (∀ wq, Below wt.heap.size wt wq → wq.cell? ⟨ks, 0, none⟩ = some (.pointer (some ⟨K1 0 + 1, 0, none⟩))) := fun wq b => cellL TZ0.1 b
    have C2 : Hid (∀ wq, Below wt.heap.size wt wq → wq.cell? ⟨ks, 1, none⟩ = some (.pointer (some ⟨K1 1 + 1, 0, none⟩))) := fun wq b => cellL TZ1.1 b
    have C3 : Hid (∀ wq, Below wt.heap.size wt wq → wq.cell? ⟨km, 0, none⟩ = some (.pointer (some ⟨KH 0, 0, none⟩))) := fun wq b => cellL TZ0.2 b
    have C4 : Hid (∀ wq, Below wt.heap.size wt wq → wq.cell? ⟨km, 1, none⟩ = some (.pointer (some ⟨KH 1, 0, none⟩))) := fun wq b => cellL TZ1.2 b
    have SM0 : Hid (∀ wq, Below wt.heap.size wt wq → Calls Tryd.prog 21 #[.pointer (some ⟨K1 0 + 1, 0, none⟩), .pointer (some ⟨KH 0, 0, none⟩)] wq fun e w' => e = .returned (.bool true) ∧ Below wt.heap.size wt w') := fun wq b => (same_M ((TZ.out.later b).sb 0 (by decide)) ((TZ.out.later b).mb 0 (by decide)) (HT.out.later (TZ.out.later b).bel)).mono fun e w' ⟨q1, q2⟩ => ⟨q1, b.trans (q2.mono b.size)⟩
    have SM1 : Hid (∀ wq, Below wt.heap.size wt wq → Calls Tryd.prog 21 #[.pointer (some ⟨K1 1 + 1, 0, none⟩), .pointer (some ⟨KH 1, 0, none⟩)] wq fun e w' => e = .returned (.bool true) ∧ Below wt.heap.size wt w') := fun wq b => (same_M ((TZ.out.later b).sb 1 (by decide)) ((TZ.out.later b).mb 1 (by decide)) (HT.out.later (TZ.out.later b).bel)).mono fun e w' ⟨q1, q2⟩ => ⟨q1, b.trans (q2.mono b.size)⟩
    clear TZ0 TZ1
    go_wp2
    refine wp_region_q (C := fun wq => Below wt.heap.size wt wq) (by kernel_rfl) (by kernel_rfl) BR.out ?_
    iterate 9 (refine qt_yes (v := ?_) (by rfl) ?_ ?_; rotate_left; (· (intro wq hSw; have f0 := C1.out wq hSw; have f1 := C2.out wq hSw; have f2 := C3.out wq hSw; have f3 := C4.out wq hSw; clear hSw; go_simp; with_reducible rfl)); (try simp only [Act.put, List.setIfInBounds_toArray, List.set_cons_zero, List.set_cons_succ]))
    refine qt_call (v := .bool true) 21 #[.pointer (some ⟨K1 0 + 1, 0, none⟩), .pointer (some ⟨KH 0, 0, none⟩)] (by rfl) ?_ (fun wq hq => SM0.out wq hq) ?_
    · intro wq hSw
      clear hSw
      go_simp
      try with_reducible rfl
    (try simp only [Act.put, List.setIfInBounds_toArray, List.set_cons_zero, List.set_cons_succ])
    iterate 9 (refine qt_yes (v := ?_) (by rfl) ?_ ?_; rotate_left; (· (intro wq hSw; have f0 := C1.out wq hSw; have f1 := C2.out wq hSw; have f2 := C3.out wq hSw; have f3 := C4.out wq hSw; clear hSw; go_simp; with_reducible rfl)); (try simp only [Act.put, List.setIfInBounds_toArray, List.set_cons_zero, List.set_cons_succ]))
    refine qt_call (v := .bool true) 21 #[.pointer (some ⟨K1 1 + 1, 0, none⟩), .pointer (some ⟨KH 1, 0, none⟩)] (by rfl) ?_ (fun wq hq => SM1.out wq hq) ?_
    · intro wq hSw
      clear hSw
      go_simp
      try with_reducible rfl
    (try simp only [Act.put, List.setIfInBounds_toArray, List.set_cons_zero, List.set_cons_succ])
    iterate 2 (refine qt_yes (v := ?_) (by rfl) ?_ ?_; rotate_left; (· (intro wq hSw; have f0 := C1.out wq hSw; have f1 := C2.out wq hSw; have f2 := C3.out wq hSw; have f3 := C4.out wq hSw; clear hSw; go_simp; with_reducible rfl)); (try simp only [Act.put, List.setIfInBounds_toArray, List.set_cons_zero, List.set_cons_succ]))
    refine qt_nil ?_
    intro wq2 hSw
    have TE : Hid (TwB w ks km K1 KB KH M S1 S1 wq2) := TZ.out.later hSw
    clear hSw BR C1 C2 C3 C4 SM0 SM1 TZ
    go_wp2
    refine ⟨?_, by simp [muS, intOf]; omega⟩
    unfold WIS
    exact ⟨_, _, _, _, _, _, _, _, _, _, _, _, _, _, _, _, _, _, _, _, _, _, _, _, _, _, _, _, _, _, _, _, _, _, _, _, _, _, _, _, _, _, _, _, _, _, _, _, _, _, _, _, _, _, _, _, _, _, _, _, _, _, _, _, _, _, _, _, _, _, _, _, _, _, _, _, _, _, _, _, _, _, _, _, _, _, _, _, _, _, _, _, _, _, _, _, _, _, _, _, _, _, _, _, _, _, _, _, _, _, _, _, _, _, _, _, _, _, _, _, _, _, _, _, _, _, _, _, _, _, _, _, _, _, _, _, _, _, _, _, _, _, _, _, _, _, _, _, _, _, _, _, _, _, _, _, _, _, _, _, _, _, _, _, _, _, _, _, _, _, _, _, _, _, _, _, _, _, _, _, _, _, _, _, _, _, _, _, _, _, _, _, _, _, _, _, _, _, _, _, _, _, _, _, _, _, _, _, _, _, _, _, _, _, _, _, _, _, _, _, _, _, _, _, _, _, _, _, _, _, _, _, _, _, _, _, _, _, i + 1, K1, S1, ⟨by omega, TE.out⟩, by first | rfl | (simp; done)⟩
  · go_upto_region 45 with (first
      | (go_at_call 16; refine SA.out.mono ?_; rintro e w3 ⟨rfl, hz⟩; rw [hz]; clear hz w3)
      | (go_at_call 18; refine WI.out.mono ?_; rintro e w3 ⟨rfl, hz⟩; rw [hz]; clear hz w3)
      | (go_at_call 17; refine (WM.out _ _ _ (by first | (with_reducible exact Or.inl ⟨rfl, rfl, rfl⟩) | (with_reducible exact Or.inr ⟨rfl, rfl, rfl⟩))).mono ?_; rintro e w3 ⟨rfl, hz⟩; rw [hz]; clear hz w3))
    obtain ⟨wt, rfl⟩ : ∃ wt : World, wt = wq := ⟨_, rfl⟩
    obtain ⟨K1, S1, TZ⟩ : ∃ K1 S1 : Nat → Nat, Hid (TwB w ks km K1 KB KH M S1 S1 wt) := ⟨_, _, TQ.out⟩
    clear TQ e0 e1 e2 SA WI WM
    have TZ0 := TZ.out.cell (show 0 < 2 by decide)
    have TZ1 := TZ.out.cell (show 1 < 2 by decide)
    have BR : Hid (Below wt.heap.size wt wt.drew) := (Below.refl _ _).drew
    have C1 : Hid (∀ wq, Below wt.heap.size wt wq → wq.cell? ⟨ks, 0, none⟩ = some (.pointer (some ⟨K1 0 + 1, 0, none⟩))) := fun wq b => cellL TZ0.1 b
    have C2 : Hid (∀ wq, Below wt.heap.size wt wq → wq.cell? ⟨ks, 1, none⟩ = some (.pointer (some ⟨K1 1 + 1, 0, none⟩))) := fun wq b => cellL TZ1.1 b
    have C3 : Hid (∀ wq, Below wt.heap.size wt wq → wq.cell? ⟨km, 0, none⟩ = some (.pointer (some ⟨KH 0, 0, none⟩))) := fun wq b => cellL TZ0.2 b
    have C4 : Hid (∀ wq, Below wt.heap.size wt wq → wq.cell? ⟨km, 1, none⟩ = some (.pointer (some ⟨KH 1, 0, none⟩))) := fun wq b => cellL TZ1.2 b
    have SM0 : Hid (∀ wq, Below wt.heap.size wt wq → Calls Tryd.prog 21 #[.pointer (some ⟨K1 0 + 1, 0, none⟩), .pointer (some ⟨KH 0, 0, none⟩)] wq fun e w' => e = .returned (.bool true) ∧ Below wt.heap.size wt w') := fun wq b => (same_M ((TZ.out.later b).sb 0 (by decide)) ((TZ.out.later b).mb 0 (by decide)) (HT.out.later (TZ.out.later b).bel)).mono fun e w' ⟨q1, q2⟩ => ⟨q1, b.trans (q2.mono b.size)⟩
    have SM1 : Hid (∀ wq, Below wt.heap.size wt wq → Calls Tryd.prog 21 #[.pointer (some ⟨K1 1 + 1, 0, none⟩), .pointer (some ⟨KH 1, 0, none⟩)] wq fun e w' => e = .returned (.bool true) ∧ Below wt.heap.size wt w') := fun wq b => (same_M ((TZ.out.later b).sb 1 (by decide)) ((TZ.out.later b).mb 1 (by decide)) (HT.out.later (TZ.out.later b).bel)).mono fun e w' ⟨q1, q2⟩ => ⟨q1, b.trans (q2.mono b.size)⟩
    clear TZ0 TZ1
    go_wp2
    refine wp_region_q (C := fun wq => Below wt.heap.size wt wq) (by kernel_rfl) (by kernel_rfl) BR.out ?_
    iterate 9 (refine qt_yes (v := ?_) (by rfl) ?_ ?_; rotate_left; (· (intro wq hSw; have f0 := C1.out wq hSw; have f1 := C2.out wq hSw; have f2 := C3.out wq hSw; have f3 := C4.out wq hSw; clear hSw; go_simp; with_reducible rfl)); (try simp only [Act.put, List.setIfInBounds_toArray, List.set_cons_zero, List.set_cons_succ]))
    refine qt_call (v := .bool true) 21 #[.pointer (some ⟨K1 0 + 1, 0, none⟩), .pointer (some ⟨KH 0, 0, none⟩)] (by rfl) ?_ (fun wq hq => SM0.out wq hq) ?_
    · intro wq hSw
      clear hSw
      go_simp
      try with_reducible rfl
    (try simp only [Act.put, List.setIfInBounds_toArray, List.set_cons_zero, List.set_cons_succ])
    iterate 9 (refine qt_yes (v := ?_) (by rfl) ?_ ?_; rotate_left; (· (intro wq hSw; have f0 := C1.out wq hSw; have f1 := C2.out wq hSw; have f2 := C3.out wq hSw; have f3 := C4.out wq hSw; clear hSw; go_simp; with_reducible rfl)); (try simp only [Act.put, List.setIfInBounds_toArray, List.set_cons_zero, List.set_cons_succ]))
    refine qt_call (v := .bool true) 21 #[.pointer (some ⟨K1 1 + 1, 0, none⟩), .pointer (some ⟨KH 1, 0, none⟩)] (by rfl) ?_ (fun wq hq => SM1.out wq hq) ?_
    · intro wq hSw
      clear hSw
      go_simp
      try with_reducible rfl
    (try simp only [Act.put, List.setIfInBounds_toArray, List.set_cons_zero, List.set_cons_succ])
    iterate 2 (refine qt_yes (v := ?_) (by rfl) ?_ ?_; rotate_left; (· (intro wq hSw; have f0 := C1.out wq hSw; have f1 := C2.out wq hSw; have f2 := C3.out wq hSw; have f3 := C4.out wq hSw; clear hSw; go_simp; with_reducible rfl)); (try simp only [Act.put, List.setIfInBounds_toArray, List.set_cons_zero, List.set_cons_succ]))
    refine qt_nil ?_
    intro wq2 hSw
    have TE : Hid (TwB w ks km K1 KB KH M S1 S1 wq2) := TZ.out.later hSw
    clear hSw BR C1 C2 C3 C4 SM0 SM1 TZ
    go_wp2
    refine ⟨?_, by simp [muS, intOf]; omega⟩
    unfold WIS
    exact ⟨_, _, _, _, _, _, _, _, _, _, _, _, _, _, _, _, _, _, _, _, _, _, _, _, _, _, _, _, _, _, _, _, _, _, _, _, _, _, _, _, _, _, _, _, _, _, _, _, _, _, _, _, _, _, _, _, _, _, _, _, _, _, _, _, _, _, _, _, _, _, _, _, _, _, _, _, _, _, _, _, _, _, _, _, _, _, _, _, _, _, _, _, _, _, _, _, _, _, _, _, _, _, _, _, _, _, _, _, _, _, _, _, _, _, _, _, _, _, _, _, _, _, _, _, _, _, _, _, _, _, _, _, _, _, _, _, _, _, _, _, _, _, _, _, _, _, _, _, _, _, _, _, _, _, _, _, _, _, _, _, _, _, _, _, _, _, _, _, _, _, _, _, _, _, _, _, _, _, _, _, _, _, _, _, _, _, _, _, _, _, _, _, _, _, _, _, _, _, _, _, _, _, _, _, _, _, _, _, _, _, _, _, _, _, _, _, _, _, _, _, _, _, _, _, _, _, _, _, _, _, _, _, _, _, _, _, _, _, i + 1, K1, S1, ⟨by omega, TE.out⟩, by first | rfl | (simp; done)⟩
  · go_upto_region 45 with (first
      | (go_at_call 16; refine SA.out.mono ?_; rintro e w3 ⟨rfl, hz⟩; rw [hz]; clear hz w3)
      | (go_at_call 18; refine WI.out.mono ?_; rintro e w3 ⟨rfl, hz⟩; rw [hz]; clear hz w3)
      | (go_at_call 17; refine (WM.out _ _ _ (by first | (with_reducible exact Or.inl ⟨rfl, rfl, rfl⟩) | (with_reducible exact Or.inr ⟨rfl, rfl, rfl⟩))).mono ?_; rintro e w3 ⟨rfl, hz⟩; rw [hz]; clear hz w3))
    obtain ⟨wt, rfl⟩ : ∃ wt : World, wt = wq := ⟨_, rfl⟩
    obtain ⟨K1, S1, TZ⟩ : ∃ K1 S1 : Nat → Nat, Hid (TwB w ks km K1 KB KH M S1 S1 wt) := ⟨_, _, TQ.out⟩
    clear TQ e0 e1 e2 SA WI WM
    have TZ0 := TZ.out.cell (show 0 < 2 by decide)
    have TZ1 := TZ.out.cell (show 1 < 2 by decide)
    have BR : Hid (Below wt.heap.size wt wt.drew) := (Below.refl _ _).drew
    have C1 : Hid (∀ wq, Below wt.heap.size wt wq → wq.cell? ⟨ks, 0, none⟩ = some (.pointer (some ⟨K1 0 + 1, 0, none⟩))) := fun wq b => cellL TZ0.1 b
    have C2 : Hid (∀ wq, Below wt.heap.size wt wq → wq.cell? ⟨ks, 1, none⟩ = some (.pointer (some ⟨K1 1 + 1, 0, none⟩))) := fun wq b => cellL TZ1.1 b
    have C3 : Hid (∀ wq, Below wt.heap.size wt wq → wq.cell? ⟨km, 0, none⟩ = some (.pointer (some ⟨KH 0, 0, none⟩))) := fun wq b => cellL TZ0.2 b
    have C4 : Hid (∀ wq, Below wt.heap.size wt wq → wq.cell? ⟨km, 1, none⟩ = some (.pointer (some ⟨KH 1, 0, none⟩))) := fun wq b => cellL TZ1.2 b
    have SM0 : Hid (∀ wq, Below wt.heap.size wt wq → Calls Tryd.prog 21 #[.pointer (some ⟨K1 0 + 1, 0, none⟩), .pointer (some ⟨KH 0, 0, none⟩)] wq fun e w' => e = .returned (.bool true) ∧ Below wt.heap.size wt w') := fun wq b => (same_M ((TZ.out.later b).sb 0 (by decide)) ((TZ.out.later b).mb 0 (by decide)) (HT.out.later (TZ.out.later b).bel)).mono fun e w' ⟨q1, q2⟩ => ⟨q1, b.trans (q2.mono b.size)⟩
    have SM1 : Hid (∀ wq, Below wt.heap.size wt wq → Calls Tryd.prog 21 #[.pointer (some ⟨K1 1 + 1, 0, none⟩), .pointer (some ⟨KH 1, 0, none⟩)] wq fun e w' => e = .returned (.bool true) ∧ Below wt.heap.size wt w') := fun wq b => (same_M ((TZ.out.later b).sb 1 (by decide)) ((TZ.out.later b).mb 1 (by decide)) (HT.out.later (TZ.out.later b).bel)).mono fun e w' ⟨q1, q2⟩ => ⟨q1, b.trans (q2.mono b.size)⟩
    clear TZ0 TZ1
    go_wp2
    refine wp_region_q (C := fun wq => Below wt.heap.size wt wq) (by kernel_rfl) (by kernel_rfl) BR.out ?_
    iterate 9 (refine qt_yes (v := ?_) (by rfl) ?_ ?_; rotate_left; (· (intro wq hSw; have f0 := C1.out wq hSw; have f1 := C2.out wq hSw; have f2 := C3.out wq hSw; have f3 := C4.out wq hSw; clear hSw; go_simp; with_reducible rfl)); (try simp only [Act.put, List.setIfInBounds_toArray, List.set_cons_zero, List.set_cons_succ]))
    refine qt_call (v := .bool true) 21 #[.pointer (some ⟨K1 0 + 1, 0, none⟩), .pointer (some ⟨KH 0, 0, none⟩)] (by rfl) ?_ (fun wq hq => SM0.out wq hq) ?_
    · intro wq hSw
      clear hSw
      go_simp
      try with_reducible rfl
    (try simp only [Act.put, List.setIfInBounds_toArray, List.set_cons_zero, List.set_cons_succ])
    iterate 9 (refine qt_yes (v := ?_) (by rfl) ?_ ?_; rotate_left; (· (intro wq hSw; have f0 := C1.out wq hSw; have f1 := C2.out wq hSw; have f2 := C3.out wq hSw; have f3 := C4.out wq hSw; clear hSw; go_simp; with_reducible rfl)); (try simp only [Act.put, List.setIfInBounds_toArray, List.set_cons_zero, List.set_cons_succ]))
    refine qt_call (v := .bool true) 21 #[.pointer (some ⟨K1 1 + 1, 0, none⟩), .pointer (some ⟨KH 1, 0, none⟩)] (by rfl) ?_ (fun wq hq => SM1.out wq hq) ?_
    · intro wq hSw
      clear hSw
      go_simp
      try with_reducible rfl
    (try simp only [Act.put, List.setIfInBounds_toArray, List.set_cons_zero, List.set_cons_succ])
    iterate 2 (refine qt_yes (v := ?_) (by rfl) ?_ ?_; rotate_left; (· (intro wq hSw; have f0 := C1.out wq hSw; have f1 := C2.out wq hSw; have f2 := C3.out wq hSw; have f3 := C4.out wq hSw; clear hSw; go_simp; with_reducible rfl)); (try simp only [Act.put, List.setIfInBounds_toArray, List.set_cons_zero, List.set_cons_succ]))
    refine qt_nil ?_
    intro wq2 hSw
    have TE : Hid (TwB w ks km K1 KB KH M S1 S1 wq2) := TZ.out.later hSw
    clear hSw BR C1 C2 C3 C4 SM0 SM1 TZ
    go_wp2
    refine ⟨?_, by simp [muS, intOf]; omega⟩
    unfold WIS
    exact ⟨_, _, _, _, _, _, _, _, _, _, _, _, _, _, _, _, _, _, _, _, _, _, _, _, _, _, _, _, _, _, _, _, _, _, _, _, _, _, _, _, _, _, _, _, _, _, _, _, _, _, _, _, _, _, _, _, _, _, _, _, _, _, _, _, _, _, _, _, _, _, _, _, _, _, _, _, _, _, _, _, _, _, _, _, _, _, _, _, _, _, _, _, _, _, _, _, _, _, _, _, _, _, _, _, _, _, _, _, _, _, _, _, _, _, _, _, _, _, _, _, _, _, _, _, _, _, _, _, _, _, _, _, _, _, _, _, _, _, _, _, _, _, _, _, _, _, _, _, _, _, _, _, _, _, _, _, _, _, _, _, _, _, _, _, _, _, _, _, _, _, _, _, _, _, _, _, _, _, _, _, _, _, _, _, _, _, _, _, _, _, _, _, _, _, _, _, _, _, _, _, _, _, _, _, _, _, _, _, _, _, _, _, _, _, _, _, _, _, _, _, _, _, _, _, _, _, _, _, _, _, _, _, _, _, _, _, _, _, i + 1, K1, S1, ⟨by omega, TE.out⟩, by first | rfl | (simp; done)⟩
  · go_upto_region 45 with (first
      | (go_at_call 16; refine SA.out.mono ?_; rintro e w3 ⟨rfl, hz⟩; rw [hz]; clear hz w3)
      | (go_at_call 18; refine WI.out.mono ?_; rintro e w3 ⟨rfl, hz⟩; rw [hz]; clear hz w3)
      | (go_at_call 17; refine (WM.out _ _ _ (by first | (with_reducible exact Or.inl ⟨rfl, rfl, rfl⟩) | (with_reducible exact Or.inr ⟨rfl, rfl, rfl⟩))).mono ?_; rintro e w3 ⟨rfl, hz⟩; rw [hz]; clear hz w3))
    obtain ⟨wt, rfl⟩ : ∃ wt : World, wt = wq := ⟨_, rfl⟩
    obtain ⟨K1, S1, TZ⟩ : ∃ K1 S1 : Nat → Nat, Hid (TwB w ks km K1 KB KH M S1 S1 wt) := ⟨_, _, TQ.out⟩
    clear TQ e0 e1 e2 SA WI WM
    have TZ0 := TZ.out.cell (show 0 < 2 by decide)
    have TZ1 := TZ.out.cell (show 1 < 2 by decide)
    have BR : Hid (Below wt.heap.size wt wt.drew) := (Below.refl _ _).drew
    have C1 : Hid (∀ wq, Below wt.heap.size wt wq → wq.cell? ⟨ks, 0, none⟩ = some (.pointer (some ⟨K1 0 + 1, 0, none⟩))) := fun wq b => cellL TZ0.1 b
    have C2 : Hid (∀ wq, Below wt.heap.size wt wq → wq.cell? ⟨ks, 1, none⟩ = some (.pointer (some ⟨K1 1 + 1, 0, none⟩))) := fun wq b => cellL TZ1.1 b
    have C3 : Hid (∀ wq, Below wt.heap.size wt wq → wq.cell? ⟨km, 0, none⟩ = some (.pointer (some ⟨KH 0, 0, none⟩))) := fun wq b => cellL TZ0.2 b
    have C4 : Hid (∀ wq, Below wt.heap.size wt wq → wq.cell? ⟨km, 1, none⟩ = some (.pointer (some ⟨KH 1, 0, none⟩))) := fun wq b => cellL TZ1.2 b
    have SM0 : Hid (∀ wq, Below wt.heap.size wt wq → Calls Tryd.prog 21 #[.pointer (some ⟨K1 0 + 1, 0, none⟩), .pointer (some ⟨KH 0, 0, none⟩)] wq fun e w' => e = .returned (.bool true) ∧ Below wt.heap.size wt w') := fun wq b => (same_M ((TZ.out.later b).sb 0 (by decide)) ((TZ.out.later b).mb 0 (by decide)) (HT.out.later (TZ.out.later b).bel)).mono fun e w' ⟨q1, q2⟩ => ⟨q1, b.trans (q2.mono b.size)⟩
    have SM1 : Hid (∀ wq, Below wt.heap.size wt wq → Calls Tryd.prog 21 #[.pointer (some ⟨K1 1 + 1, 0, none⟩), .pointer (some ⟨KH 1, 0, none⟩)] wq fun e w' => e = .returned (.bool true) ∧ Below wt.heap.size wt w') := fun wq b => (same_M ((TZ.out.later b).sb 1 (by decide)) ((TZ.out.later b).mb 1 (by decide)) (HT.out.later (TZ.out.later b).bel)).mono fun e w' ⟨q1, q2⟩ => ⟨q1, b.trans (q2.mono b.size)⟩
    clear TZ0 TZ1
    go_wp2
    refine wp_region_q (C := fun wq => Below wt.heap.size wt wq) (by kernel_rfl) (by kernel_rfl) BR.out ?_
    iterate 9 (refine qt_yes (v := ?_) (by rfl) ?_ ?_; rotate_left; (· (intro wq hSw; have f0 := C1.out wq hSw; have f1 := C2.out wq hSw; have f2 := C3.out wq hSw; have f3 := C4.out wq hSw; clear hSw; go_simp; with_reducible rfl)); (try simp only [Act.put, List.setIfInBounds_toArray, List.set_cons_zero, List.set_cons_succ]))
    refine qt_call (v := .bool true) 21 #[.pointer (some ⟨K1 0 + 1, 0, none⟩), .pointer (some ⟨KH 0, 0, none⟩)] (by rfl) ?_ (fun wq hq => SM0.out wq hq) ?_
    · intro wq hSw
      clear hSw
      go_simp
      try with_reducible rfl
    (try simp only [Act.put, List.setIfInBounds_toArray, List.set_cons_zero, List.set_cons_succ])
    iterate 9 (refine qt_yes (v := ?_) (by rfl) ?_ ?_; rotate_left; (· (intro wq hSw; have f0 := C1.out wq hSw; have f1 := C2.out wq hSw; have f2 := C3.out wq hSw; have f3 := C4.out wq hSw; clear hSw; go_simp; with_reducible rfl)); (try simp only [Act.put, List.setIfInBounds_toArray, List.set_cons_zero, List.set_cons_succ]))
    refine qt_call (v := .bool true) 21 #[.pointer (some ⟨K1 1 + 1, 0, none⟩), .pointer (some ⟨KH 1, 0, none⟩)] (by rfl) ?_ (fun wq hq => SM1.out wq hq) ?_
    · intro wq hSw
      clear hSw
      go_simp
      try with_reducible rfl
    (try simp only [Act.put, List.setIfInBounds_toArray, List.set_cons_zero, List.set_cons_succ])
    iterate 2 (refine qt_yes (v := ?_) (by rfl) ?_ ?_; rotate_left; (· (intro wq hSw; have f0 := C1.out wq hSw; have f1 := C2.out wq hSw; have f2 := C3.out wq hSw; have f3 := C4.out wq hSw; clear hSw; go_simp; with_reducible rfl)); (try simp only [Act.put, List.setIfInBounds_toArray, List.set_cons_zero, List.set_cons_succ]))
    refine qt_nil ?_
    intro wq2 hSw
    have TE : Hid (TwB w ks km K1 KB KH M S1 S1 wq2) := TZ.out.later hSw
    clear hSw BR C1 C2 C3 C4 SM0 SM1 TZ
    go_wp2
    refine ⟨?_, by simp [muS, intOf]; omega⟩
    unfold WIS
    exact ⟨_, _, _, _, _, _, _, _, _, _, _, _, _, _, _, _, _, _, _, _, _, _, _, _, _, _, _, _, _, _, _, _, _, _, _, _, _, _, _, _, _, _, _, _, _, _, _, _, _, _, _, _, _, _, _, _, _, _, _, _, _, _, _, _, _, _, _, _, _, _, _, _, _, _, _, _, _, _, _, _, _, _, _, _, _, _, _, _, _, _, _, _, _, _, _, _, _, _, _, _, _, _, _, _, _, _, _, _, _, _, _, _, _, _, _, _, _, _, _, _, _, _, _, _, _, _, _, _, _, _, _, _, _, _, _, _, _, _, _, _, _, _, _, _, _, _, _, _, _, _, _, _, _, _, _, _, _, _, _, _, _, _, _, _, _, _, _, _, _, _, _, _, _, _, _, _, _, _, _, _, _, _, _, _, _, _, _, _, _, _, _, _, _, _, _, _, _, _, _, _, _, _, _, _, _, _, _, _, _, _, _, _, _, _, _, _, _, _, _, _, _, _, _, _, _, _, _, _, _, _, _, _, _, _, _, _, _, _, i + 1, K1, S1, ⟨by omega, TE.out⟩, by first | rfl | (simp; done)⟩
end Go.Proofs.YtcjejnenklppiaaDoor
namespace Go.Proofs.YtcjejnenklppiaaDoor
set_option linter.unusedVariables false
open Go.RowKit Go.Shelf

set_option maxRecDepth 1000000 in
set_option maxHeartbeats 16000000 in
theorem sets_wd {w : World} (m n : Nat) (la : Option Addr) (lc : Nat) (L : List (Int × Int × Int)) (ks km : Nat) (KB KH M : Nat → Nat) (hLl : L.length ≤ 140737488355328) (HL : Hid (StpB w la L)) (HT : Hid (TabB w)) (c3 c4 c5 c6 c7 c8 c9 c10 c24 c25 c26 c27 c28 c29 c30 c31 c32 c33 c34 c35 c36 c37 c38 c39 c40 c41 c42 c43 c44 c45 c46 c47 c48 c49 c50 c51 c52 c53 c54 c55 c56 c57 c58 c59 c60 c61 c62 c63 c64 c65 c66 c67 c68 c69 c70 c71 c72 c73 c74 c75 c76 c77 c78 c79 c80 c81 c82 c83 c84 c85 c86 c87 c88 c89 c90 c91 c92 c93 c94 c95 c96 c97 c98 c99 c100 c101 c102 c103 c104 c105 c106 c107 c336 : Value) (u14 u15 u16 u17 u18 u19 u20 u21 u22 u23 u108 u109 u110 u111 u112 u113 u114 u115 u116 u117 u118 u119 u120 u121 u122 u123 u124 u125 u126 u127 u128 u129 u130 u131 u132 u133 u134 u135 u136 u137 u138 u139 u140 u141 u142 u143 u144 u145 u146 u147 u148 u149 u150 u151 u152 u153 u154 u155 u156 u157 u158 u159 u160 u161 u162 u163 u164 u165 u166 u167 u168 u169 u170 u171 u172 u173 u174 u175 u176 u177 u178 u179 u180 u181 u182 u183 u184 u185 u186 u187 u188 u189 u190 u191 u192 u193 u194 u195 u196 u197 u198 u199 u200 u201 u202 u203 u204 u205 u206 u207 u208 u209 u210 u211 u212 u213 u214 u215 u216 u217 u218 u219 u220 u221 u222 u223 u224 u225 u226 u227 u228 u229 u230 u231 u232 u233 u234 u235 u236 u237 u238 u239 u240 u241 u242 u243 u244 u245 u246 u247 u248 u249 u250 u251 u252 u253 u254 u255 u256 u257 u258 u259 u260 u261 u262 u263 u264 u265 u266 u267 u268 u269 u270 u271 u272 u273 u274 u275 u276 u277 u278 u279 u280 u281 u282 u283 u284 u285 u286 u287 u288 u289 u290 u291 u292 u293 u294 u295 u296 u297 u298 u299 u300 u301 u302 u303 u304 u305 u306 u307 u308 u309 u310 u311 u312 u313 u314 u315 u316 u317 u318 u319 u320 u321 u322 u323 u324 u325 u326 u327 u328 u329 u330 u331 u332 u333 u334 u335 : Value) (i : Nat) (hlt : i < L.length) (K S : Nat → Nat) (wr : World) (HTw : Hid (TwB w ks km K KB KH M S S wr)) (x y z : Int) (hxyz : L.getD i (0, 0, 0) = (x, y, z)) (Q0 : Exit → Act → World → Prop) (hne0 : x ≠ 0) (hne1 : x ≠ 1) (hne2 : x ≠ 2) (hne3 : x ≠ 3) (hne4 : x ≠ 4) (hne5 : x ≠ 5) (hne6 : x ≠ 6) (hne7 : x ≠ 7) (hne8 : x ≠ 8)  :
    Code.wp Tryd.prog bodyS (Exit.then (fun a' w'' => WIS w m n la lc L ks km KB KH M c3 c4 c5 c6 c7 c8 c9 c10 c24 c25 c26 c27 c28 c29 c30 c31 c32 c33 c34 c35 c36 c37 c38 c39 c40 c41 c42 c43 c44 c45 c46 c47 c48 c49 c50 c51 c52 c53 c54 c55 c56 c57 c58 c59 c60 c61 c62 c63 c64 c65 c66 c67 c68 c69 c70 c71 c72 c73 c74 c75 c76 c77 c78 c79 c80 c81 c82 c83 c84 c85 c86 c87 c88 c89 c90 c91 c92 c93 c94 c95 c96 c97 c98 c99 c100 c101 c102 c103 c104 c105 c106 c107 c336 a' w'' ∧ muS L a' w'' < muS L ⟨#[.int .i64 (m : Int), .int .i64 (n : Int), .slice la L.length lc, c3, c4, c5, c6, c7, c8, c9, c10, .slice (some ⟨ks, 0, none⟩) 2 2, .slice (some ⟨km, 0, none⟩) 2 2, (.int .i64 (i : Int)), u14, u15, u16, u17, u18, u19, u20, u21, u22, u23, c24, c25, c26, c27, c28, c29, c30, c31, c32, c33, c34, c35, c36, c37, c38, c39, c40, c41, c42, c43, c44, c45, c46, c47, c48, c49, c50, c51, c52, c53, c54, c55, c56, c57, c58, c59, c60, c61, c62, c63, c64, c65, c66, c67, c68, c69, c70, c71, c72, c73, c74, c75, c76, c77, c78, c79, c80, c81, c82, c83, c84, c85, c86, c87, c88, c89, c90, c91, c92, c93, c94, c95, c96, c97, c98, c99, c100, c101, c102, c103, c104, c105, c106, c107, u108, u109, u110, u111, u112, u113, u114, u115, u116, u117, u118, u119, u120, u121, u122, u123, u124, u125, u126, u127, u128, u129, u130, u131, u132, u133, u134, u135, u136, u137, u138, u139, u140, u141, u142, u143, u144, u145, u146, u147, u148, u149, u150, u151, u152, u153, u154, u155, u156, u157, u158, u159, u160, u161, u162, u163, u164, u165, u166, u167, u168, u169, u170, u171, u172, u173, u174, u175, u176, u177, u178, u179, u180, u181, u182, u183, u184, u185, u186, u187, u188, u189, u190, u191, u192, u193, u194, u195, u196, u197, u198, u199, u200, u201, u202, u203, u204, u205, u206, u207, u208, u209, u210, u211, u212, u213, u214, u215, u216, u217, u218, u219, u220, u221, u222, u223, u224, u225, u226, u227, u228, u229, u230, u231, u232, u233, u234, u235, u236, u237, u238, u239, u240, u241, u242, u243, u244, u245, u246, u247, u248, u249, u250, u251, u252, u253, u254, u255, u256, u257, u258, u259, u260, u261, u262, u263, u264, u265, u266, u267, u268, u269, u270, u271, u272, u273, u274, u275, u276, u277, u278, u279, u280, u281, u282, u283, u284, u285, u286, u287, u288, u289, u290, u291, u292, u293, u294, u295, u296, u297, u298, u299, u300, u301, u302, u303, u304, u305, u306, u307, u308, u309, u310, u311, u312, u313, u314, u315, u316, u317, u318, u319, u320, u321, u322, u323, u324, u325, u326, u327, u328, u329, u330, u331, u332, u333, u334, u335, c336], []⟩ wr) Q0) ⟨#[.int .i64 (m : Int), .int .i64 (n : Int), .slice la L.length lc, c3, c4, c5, c6, c7, c8, c9, c10, .slice (some ⟨ks, 0, none⟩) 2 2, .slice (some ⟨km, 0, none⟩) 2 2, (.int .i64 (i : Int)), u14, u15, u16, u17, u18, u19, u20, u21, u22, u23, c24, c25, c26, c27, c28, c29, c30, c31, c32, c33, c34, c35, c36, c37, c38, c39, c40, c41, c42, c43, c44, c45, c46, c47, c48, c49, c50, c51, c52, c53, c54, c55, c56, c57, c58, c59, c60, c61, c62, c63, c64, c65, c66, c67, c68, c69, c70, c71, c72, c73, c74, c75, c76, c77, c78, c79, c80, c81, c82, c83, c84, c85, c86, c87, c88, c89, c90, c91, c92, c93, c94, c95, c96, c97, c98, c99, c100, c101, c102, c103, c104, c105, c106, c107, u108, u109, u110, u111, u112, u113, u114, u115, u116, u117, u118, u119, u120, u121, u122, u123, u124, u125, u126, u127, u128, u129, u130, u131, u132, u133, u134, u135, u136, u137, u138, u139, u140, u141, u142, u143, u144, u145, u146, u147, u148, u149, u150, u151, u152, u153, u154, u155, u156, u157, u158, u159, u160, u161, u162, u163, u164, u165, u166, u167, u168, u169, u170, u171, u172, u173, u174, u175, u176, u177, u178, u179, u180, u181, u182, u183, u184, u185, u186, u187, u188, u189, u190, u191, u192, u193, u194, u195, u196, u197, u198, u199, u200, u201, u202, u203, u204, u205, u206, u207, u208, u209, u210, u211, u212, u213, u214, u215, u216, u217, u218, u219, u220, u221, u222, u223, u224, u225, u226, u227, u228, u229, u230, u231, u232, u233, u234, u235, u236, u237, u238, u239, u240, u241, u242, u243, u244, u245, u246, u247, u248, u249, u250, u251, u252, u253, u254, u255, u256, u257, u258, u259, u260, u261, u262, u263, u264, u265, u266, u267, u268, u269, u270, u271, u272, u273, u274, u275, u276, u277, u278, u279, u280, u281, u282, u283, u284, u285, u286, u287, u288, u289, u290, u291, u292, u293, u294, u295, u296, u297, u298, u299, u300, u301, u302, u303, u304, u305, u306, u307, u308, u309, u310, u311, u312, u313, u314, u315, u316, u317, u318, u319, u320, u321, u322, u323, u324, u325, u326, u327, u328, u329, u330, u331, u332, u333, u334, u335, c336], []⟩ wr := by
  have ilt : (i : Int) < (L.length : Int) := by omega
  obtain ⟨c, d, hc1, hd1, hc, hd, hcd⟩ := which_two y
  have hand : bits .and .i64 y 1 = (c : Int) := (and_one y).trans hc1
  have hsub : IntKind.i64.wrap (1 - (c : Int)) = (d : Int) := by rw [hd1, IntKind.wrap_i64]; omega
  have clt : (c : Int) < 2 := by omega
  have dlt : (d : Int) < 2 := by omega
  obtain ⟨lb, lo, hla, hlb, hcell⟩ := (HL.out.later HTw.out.bel) (by intro q; rw [q] at hlt; simp at hlt)
  obtain ⟨e0, e1, e2⟩ := hcell i hlt
  rw [hxyz] at e0 e1 e2
  simp only at e0 e1 e2
  subst hla
  have LC : Hid (∀ wq, Below w.heap.size w wq → wq.cell? ⟨lb, lo + i * 3, none⟩ = some (.int .i64 x) ∧ wq.cell? ⟨lb, lo + i * 3 + 1, none⟩ = some (.int .i64 y) ∧ wq.cell? ⟨lb, lo + i * 3 + 2, none⟩ = some (.int .i64 z)) := fun wq b => by
    obtain ⟨lb', lo', e', _, hc'⟩ := (HL.out.later b) (by intro q; rw [q] at hlt; simp at hlt)
    simp only [Option.some.injEq, Addr.mk.injEq, and_true] at e'
    obtain ⟨rfl, rfl⟩ := e'
    have := hc' i hlt
    rw [hxyz] at this
    exact this
  have HX : Hid (L.getD i (0, 0, 0) = (x, y, z)) := hxyz
  obtain ⟨s1, s3⟩ := HTw.out.cell hc
  obtain ⟨s2, s4⟩ := HTw.out.cell hd
  have BR : Hid (Below wr.heap.size wr wr.drew) := (Below.refl _ _).drew
  have C1 : Hid (∀ wq, Below wr.heap.size wr wq → wq.cell? ⟨ks, c, none⟩ = some (.pointer (some ⟨K c + 1, 0, none⟩))) := fun wq b => cellL s1 b
  have C2 : Hid (∀ wq, Below wr.heap.size wr wq → wq.cell? ⟨ks, d, none⟩ = some (.pointer (some ⟨K d + 1, 0, none⟩))) := fun wq b => cellL s2 b
  have C3 : Hid (∀ wq, Below wr.heap.size wr wq → wq.cell? ⟨km, c, none⟩ = some (.pointer (some ⟨KH c, 0, none⟩))) := fun wq b => cellL s3 b
  have C4 : Hid (∀ wq, Below wr.heap.size wr wq → wq.cell? ⟨km, d, none⟩ = some (.pointer (some ⟨KH d, 0, none⟩))) := fun wq b => cellL s4 b
  clear hcell hlb hxyz s1 s2 s3 s4 hc1 hd1
  conv => arg 2; whnf
  go_wp2
  refine wp_region_q (C := fun wq => Below wr.heap.size wr wq) (by kernel_rfl) (by kernel_rfl) BR.out ?_
  iterate 22 (refine qt_yes (v := ?_) (by rfl) ?_ ?_; rotate_left; (· (intro wq hSw; have f0 := C1.out wq hSw; have f1 := C2.out wq hSw; have f2 := C3.out wq hSw; have f3 := C4.out wq hSw; clear hSw; go_simp; with_reducible rfl)); (try simp only [Act.put, List.setIfInBounds_toArray, List.set_cons_zero, List.set_cons_succ]))
  refine qt_nil ?_
  intro wq hSw
  have TQ : Hid (TwB w ks km K KB KH M S S wq) := HTw.out.later hSw
  obtain ⟨e0, e1, e2⟩ := LC.out wq TQ.out.bel
  clear hSw BR C1 C2 C3 C4 HTw
  have n0 : (x == 0) = false := by simpa using hne0
  have n1 : (x == 1) = false := by simpa using hne1
  have n2 : (x == 2) = false := by simpa using hne2
  have n3 : (x == 3) = false := by simpa using hne3
  have n4 : (x == 4) = false := by simpa using hne4
  have n5 : (x == 5) = false := by simpa using hne5
  have n6 : (x == 6) = false := by simpa using hne6
  have n7 : (x == 7) = false := by simpa using hne7
  have n8 : (x == 8) = false := by simpa using hne8
  clear hne0
  clear hne1
  clear hne2
  clear hne3
  clear hne4
  clear hne5
  clear hne6
  clear hne7
  clear hne8
  go_upto_region 45 with fail
  obtain ⟨wt, rfl⟩ : ∃ wt : World, wt = wq := ⟨_, rfl⟩
  obtain ⟨K1, S1, TZ⟩ : ∃ K1 S1 : Nat → Nat, Hid (TwB w ks km K1 KB KH M S1 S1 wt) := ⟨K, S, TQ.out⟩
  clear TQ e0 e1 e2
  have TZ0 := TZ.out.cell (show 0 < 2 by decide)
  have TZ1 := TZ.out.cell (show 1 < 2 by decide)
  have BR : Hid (Below wt.heap.size wt wt.drew) := (Below.refl _ _).drew
  have C1 : Hid (∀ wq, Below wt.heap.size wt wq → wq.cell? ⟨ks, 0, none⟩ = some (.pointer (some ⟨K1 0 + 1, 0, none⟩))) := fun wq b => cellL TZ0.1 b
  have C2 : Hid (∀ wq, Below wt.heap.size wt wq → wq.cell? ⟨ks, 1, none⟩ = some (.pointer (some ⟨K1 1 + 1, 0, none⟩))) := fun wq b => cellL TZ1.1 b
  have C3 : Hid (∀ wq, Below wt.heap.size wt wq → wq.cell? ⟨km, 0, none⟩ = some (.pointer (some ⟨KH 0, 0, none⟩))) := fun wq b => cellL TZ0.2 b
  have C4 : Hid (∀ wq, Below wt.heap.size wt wq → wq.cell? ⟨km, 1, none⟩ = some (.pointer (some ⟨KH 1, 0, none⟩))) := fun wq b => cellL TZ1.2 b
  have SM0 : Hid (∀ wq, Below wt.heap.size wt wq → Calls Tryd.prog 21 #[.pointer (some ⟨K1 0 + 1, 0, none⟩), .pointer (some ⟨KH 0, 0, none⟩)] wq fun e w' => e = .returned (.bool true) ∧ Below wt.heap.size wt w') := fun wq b => (same_M ((TZ.out.later b).sb 0 (by decide)) ((TZ.out.later b).mb 0 (by decide)) (HT.out.later (TZ.out.later b).bel)).mono fun e w' ⟨q1, q2⟩ => ⟨q1, b.trans (q2.mono b.size)⟩
  have SM1 : Hid (∀ wq, Below wt.heap.size wt wq → Calls Tryd.prog 21 #[.pointer (some ⟨K1 1 + 1, 0, none⟩), .pointer (some ⟨KH 1, 0, none⟩)] wq fun e w' => e = .returned (.bool true) ∧ Below wt.heap.size wt w') := fun wq b => (same_M ((TZ.out.later b).sb 1 (by decide)) ((TZ.out.later b).mb 1 (by decide)) (HT.out.later (TZ.out.later b).bel)).mono fun e w' ⟨q1, q2⟩ => ⟨q1, b.trans (q2.mono b.size)⟩
  clear TZ0 TZ1
  go_wp2
  refine wp_region_q (C := fun wq => Below wt.heap.size wt wq) (by kernel_rfl) (by kernel_rfl) BR.out ?_
  iterate 9 (refine qt_yes (v := ?_) (by rfl) ?_ ?_; rotate_left; (· (intro wq hSw; have f0 := C1.out wq hSw; have f1 := C2.out wq hSw; have f2 := C3.out wq hSw; have f3 := C4.out wq hSw; clear hSw; go_simp; with_reducible rfl)); (try simp only [Act.put, List.setIfInBounds_toArray, List.set_cons_zero, List.set_cons_succ]))
  refine qt_call (v := .bool true) 21 #[.pointer (some ⟨K1 0 + 1, 0, none⟩), .pointer (some ⟨KH 0, 0, none⟩)] (by rfl) ?_ (fun wq hq => SM0.out wq hq) ?_
  · intro wq hSw
    clear hSw
    go_simp
    try with_reducible rfl
  (try simp only [Act.put, List.setIfInBounds_toArray, List.set_cons_zero, List.set_cons_succ])
  iterate 9 (refine qt_yes (v := ?_) (by rfl) ?_ ?_; rotate_left; (· (intro wq hSw; have f0 := C1.out wq hSw; have f1 := C2.out wq hSw; have f2 := C3.out wq hSw; have f3 := C4.out wq hSw; clear hSw; go_simp; with_reducible rfl)); (try simp only [Act.put, List.setIfInBounds_toArray, List.set_cons_zero, List.set_cons_succ]))
  refine qt_call (v := .bool true) 21 #[.pointer (some ⟨K1 1 + 1, 0, none⟩), .pointer (some ⟨KH 1, 0, none⟩)] (by rfl) ?_ (fun wq hq => SM1.out wq hq) ?_
  · intro wq hSw
    clear hSw
    go_simp
    try with_reducible rfl
  (try simp only [Act.put, List.setIfInBounds_toArray, List.set_cons_zero, List.set_cons_succ])
  iterate 2 (refine qt_yes (v := ?_) (by rfl) ?_ ?_; rotate_left; (· (intro wq hSw; have f0 := C1.out wq hSw; have f1 := C2.out wq hSw; have f2 := C3.out wq hSw; have f3 := C4.out wq hSw; clear hSw; go_simp; with_reducible rfl)); (try simp only [Act.put, List.setIfInBounds_toArray, List.set_cons_zero, List.set_cons_succ]))
  refine qt_nil ?_
  intro wq2 hSw
  have TE : Hid (TwB w ks km K1 KB KH M S1 S1 wq2) := TZ.out.later hSw
  clear hSw BR C1 C2 C3 C4 SM0 SM1 TZ
  go_wp2
  refine ⟨?_, by simp [muS, intOf]; omega⟩
  unfold WIS
  exact ⟨_, _, _, _, _, _, _, _, _, _, _, _, _, _, _, _, _, _, _, _, _, _, _, _, _, _, _, _, _, _, _, _, _, _, _, _, _, _, _, _, _, _, _, _, _, _, _, _, _, _, _, _, _, _, _, _, _, _, _, _, _, _, _, _, _, _, _, _, _, _, _, _, _, _, _, _, _, _, _, _, _, _, _, _, _, _, _, _, _, _, _, _, _, _, _, _, _, _, _, _, _, _, _, _, _, _, _, _, _, _, _, _, _, _, _, _, _, _, _, _, _, _, _, _, _, _, _, _, _, _, _, _, _, _, _, _, _, _, _, _, _, _, _, _, _, _, _, _, _, _, _, _, _, _, _, _, _, _, _, _, _, _, _, _, _, _, _, _, _, _, _, _, _, _, _, _, _, _, _, _, _, _, _, _, _, _, _, _, _, _, _, _, _, _, _, _, _, _, _, _, _, _, _, _, _, _, _, _, _, _, _, _, _, _, _, _, _, _, _, _, _, _, _, _, _, _, _, _, _, _, _, _, _, _, _, _, _, _, i + 1, K1, S1, ⟨by omega, TE.out⟩, by first | rfl | (simp; done)⟩
end Go.Proofs.YtcjejnenklppiaaDoor
