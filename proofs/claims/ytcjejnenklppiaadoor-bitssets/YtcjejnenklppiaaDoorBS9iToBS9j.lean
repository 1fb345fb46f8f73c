import Derived.Test.YtcjejnenklppiaaDoorBS7ToBS8
namespace Go.Proofs.YtcjejnenklppiaaDoor
set_option linter.unusedVariables false
open Go.RowKit Go.Shelf

theorem upB_up (f : Nat → Nat) (c x y : Nat) : upB (upB f c x) c y = upB f c y := by
  funext j
  unfold upB
  by_cases e : j = c
  · rw [if_pos e, if_pos e]
  · rw [if_neg e, if_neg e, if_neg e]
/-- A copy beside the two sets. -/
structure P7 (w : World) (ks km : Nat) (K KB KH M S : Nat → Nat) (c kc X : Nat) (wr : World) : Prop where
  tw : TwB w ks km K KB KH M (upB S c X) S wr
  sb : SB wr kc (M c) (S c)
  lo : w.heap.size ≤ kc
  ne : ∀ d, d < 2 → kc ≠ K d
theorem P7.start {w wq w3 : World} {ks km : Nat} {K KB KH M S : Nat → Nat} {c : Nat} (h : TwB w ks km K KB KH M S S wq) (s : SB w3 wq.heap.size (M c) (S c)) (b : Below wq.heap.size wq w3) : P7 w ks km K KB KH M S c wq.heap.size (S c) w3 :=
  ⟨by rw [upB_same]; exact h.later b, s, h.bel.size, fun d hd e => by have := (h.sb d hd).size; omega⟩
theorem P7.add {w : World} {ks km : Nat} {K KB KH M S : Nat → Nat} {c kc X : Nat} {wr : World} (h : P7 w ks km K KB KH M S c kc X wr) (hc : c < 2) (x : Int) : Calls Tryd.prog 7 #[.pointer (some ⟨K c + 1, 0, none⟩), .int .i64 x] wr fun e w' => ∃ bv, e = .returned (.bool bv) ∧ ∃ X', P7 w ks km K KB KH M S c kc X' w' := by
  have hs := h.tw.sb c hc
  rw [upB_at] at hs
  refine (add_SB hs x).mono fun e w' ⟨q1, q2, q3⟩ => ⟨_, q1, addX X (M c) x, ?_, h.sb.frB q3 (h.ne c hc) (ne_ty h.sb.hd hs.wd (by decide)), h.lo, h.ne⟩
  have := h.tw.set hc q2 q3
  rw [upB_up] at this
  exact this
theorem P7.fin {w : World} {ks km : Nat} {K KB KH M S : Nat → Nat} {c kc X : Nat} {wr : World} (h : P7 w ks km K KB KH M S c kc X wr) (hc : c < 2) : TwB w ks km (upB K c kc) KB KH M S S (wr.setCell ⟨ks, c, none⟩ (.pointer (some ⟨kc + 1, 0, none⟩))) := by
  have := h.tw.swap hc h.sb h.lo h.ne
  rw [upB_up, upB_same] at this
  exact this
set_option maxRecDepth 1000000 in
set_option maxHeartbeats 16000000 in
theorem sets_w7 {w : World} (m n : Nat) (la : Option Addr) (lc : Nat) (L : List (Int × Int × Int)) (ks km : Nat) (KB KH M : Nat → Nat) (hLl : L.length ≤ 140737488355328) (HL : Hid (StpB w la L)) (HT : Hid (TabB w)) (c3 c4 c5 c6 c7 c8 c9 c10 c24 c25 c26 c27 c28 c29 c30 c31 c32 c33 c34 c35 c36 c37 c38 c39 c40 c41 c42 c43 c44 c45 c46 c47 c48 c49 c50 c51 c52 c53 c54 c55 c56 c57 c58 c59 c60 c61 c62 c63 c64 c65 c66 c67 c68 c69 c70 c71 c72 c73 c74 c75 c76 c77 c78 c79 c80 c81 c82 c83 c84 c85 c86 c87 c88 c89 c90 c91 c92 c93 c94 c95 c96 c97 c98 c99 c100 c101 c102 c103 c104 c105 c106 c107 c336 : Value) (u14 u15 u16 u17 u18 u19 u20 u21 u22 u23 u108 u109 u110 u111 u112 u113 u114 u115 u116 u117 u118 u119 u120 u121 u122 u123 u124 u125 u126 u127 u128 u129 u130 u131 u132 u133 u134 u135 u136 u137 u138 u139 u140 u141 u142 u143 u144 u145 u146 u147 u148 u149 u150 u151 u152 u153 u154 u155 u156 u157 u158 u159 u160 u161 u162 u163 u164 u165 u166 u167 u168 u169 u170 u171 u172 u173 u174 u175 u176 u177 u178 u179 u180 u181 u182 u183 u184 u185 u186 u187 u188 u189 u190 u191 u192 u193 u194 u195 u196 u197 u198 u199 u200 u201 u202 u203 u204 u205 u206 u207 u208 u209 u210 u211 u212 u213 u214 u215 u216 u217 u218 u219 u220 u221 u222 u223 u224 u225 u226 u227 u228 u229 u230 u231 u232 u233 u234 u235 u236 u237 u238 u239 u240 u241 u242 u243 u244 u245 u246 u247 u248 u249 u250 u251 u252 u253 u254 u255 u256 u257 u258 u259 u260 u261 u262 u263 u264 u265 u266 u267 u268 u269 u270 u271 u272 u273 u274 u275 u276 u277 u278 u279 u280 u281 u282 u283 u284 u285 u286 u287 u288 u289 u290 u291 u292 u293 u294 u295 u296 u297 u298 u299 u300 u301 u302 u303 u304 u305 u306 u307 u308 u309 u310 u311 u312 u313 u314 u315 u316 u317 u318 u319 u320 u321 u322 u323 u324 u325 u326 u327 u328 u329 u330 u331 u332 u333 u334 u335 : Value) (i : Nat) (hlt : i < L.length) (K S : Nat → Nat) (wr : World) (HTw : Hid (TwB w ks km K KB KH M S S wr)) (x y z : Int) (hxyz : L.getD i (0, 0, 0) = (x, y, z)) (Q0 : Exit → Act → World → Prop) (hx : x = 7) (hQp : ∀ c (a : Act) d v w, Q0 (.panic c) (a.put d v) w → Q0 (.panic c) a w) :
    Code.wp Tryd.prog bodyS (Exit.then (fun a' w'' => WIS w m n la lc L ks km KB KH M c3 c4 c5 c6 c7 c8 c9 c10 c24 c25 c26 c27 c28 c29 c30 c31 c32 c33 c34 c35 c36 c37 c38 c39 c40 c41 c42 c43 c44 c45 c46 c47 c48 c49 c50 c51 c52 c53 c54 c55 c56 c57 c58 c59 c60 c61 c62 c63 c64 c65 c66 c67 c68 c69 c70 c71 c72 c73 c74 c75 c76 c77 c78 c79 c80 c81 c82 c83 c84 c85 c86 c87 c88 c89 c90 c91 c92 c93 c94 c95 c96 c97 c98 c99 c100 c101 c102 c103 c104 c105 c106 c107 c336 a' w'' ∧ muS L a' w'' < muS L ⟨#[.int .i64 (m : Int), .int .i64 (n : Int), .slice la L.length lc, c3, c4, c5, c6, c7, c8, c9, c10, .slice (some ⟨ks, 0, none⟩) 2 2, .slice (some ⟨km, 0, none⟩) 2 2, (.int .i64 (i : Int)), u14, u15, u16, u17, u18, u19, u20, u21, u22, u23, c24, c25, c26, c27, c28, c29, c30, c31, c32, c33, c34, c35, c36, c37, c38, c39, c40, c41, c42, c43, c44, c45, c46, c47, c48, c49, c50, c51, c52, c53, c54, c55, c56, c57, c58, c59, c60, c61, c62, c63, c64, c65, c66, c67, c68, c69, c70, c71, c72, c73, c74, c75, c76, c77, c78, c79, c80, c81, c82, c83, c84, c85, c86, c87, c88, c89, c90, c91, c92, c93, c94, c95, c96, c97, c98, c99, c100, c101, c102, c103, c104, c105, c106, c107, u108, u109, u110, u111, u112, u113, u114, u115, u116, u117, u118, u119, u120, u121, u122, u123, u124, u125, u126, u127, u128, u129, u130, u131, u132, u133, u134, u135, u136, u137, u138, u139, u140, u141, u142, u143, u144, u145, u146, u147, u148, u149, u150, u151, u152, u153, u154, u155, u156, u157, u158, u159, u160, u161, u162, u163, u164, u165, u166, u167, u168, u169, u170, u171, u172, u173, u174, u175, u176, u177, u178, u179, u180, u181, u182, u183, u184, u185, u186, u187, u188, u189, u190, u191, u192, u193, u194, u195, u196, u197, u198, u199, u200, u201, u202, u203, u204, u205, u206, u207, u208, u209, u210, u211, u212, u213, u214, u215, u216, u217, u218, u219, u220, u221, u222, u223, u224, u225, u226, u227, u228, u229, u230, u231, u232, u233, u234, u235, u236, u237, u238, u239, u240, u241, u242, u243, u244, u245, u246, u247, u248, u249, u250, u251, u252, u253, u254, u255, u256, u257, u258, u259, u260, u261, u262, u263, u264, u265, u266, u267, u268, u269, u270, u271, u272, u273, u274, u275, u276, u277, u278, u279, u280, u281, u282, u283, u284, u285, u286, u287, u288, u289, u290, u291, u292, u293, u294, u295, u296, u297, u298, u299, u300, u301, u302, u303, u304, u305, u306, u307, u308, u309, u310, u311, u312, u313, u314, u315, u316, u317, u318, u319, u320, u321, u322, u323, u324, u325, u326, u327, u328, u329, u330, u331, u332, u333, u334, u335, c336], []⟩ wr) Q0) ⟨#[.int .i64 (m : Int), .int .i64 (n : Int), .slice la L.length lc, c3, c4, c5, c6, c7, c8, c9, c10, .slice (some ⟨ks, 0, none⟩) 2 2, .slice (some ⟨km, 0, none⟩) 2 2, (.int .i64 (i : Int)), u14, u15, u16, u17, u18, u19, u20, u21, u22, u23, c24, c25, c26, c27, c28, c29, c30, c31, c32, c33, c34, c35, c36, c37, c38, c39, c40, c41, c42, c43, c44, c45, c46, c47, c48, c49, c50, c51, c52, c53, c54, c55, c56, c57, c58, c59, c60, c61, c62, c63, c64, c65, c66, c67, c68, c69, c70, c71, c72, c73, c74, c75, c76, c77, c78, c79, c80, c81, c82, c83, c84, c85, c86, c87, c88, c89, c90, c91, c92, c93, c94, c95, c96, c97, c98, c99, c100, c101, c102, c103, c104, c105, c106, c107, u108, u109, u110, u111, u112, u113, u114, u115, u116, u117, u118, u119, u120, u121, u122, u123, u124, u125, u126, u127, u128, u129, u130, u131, u132, u133, u134, u135, u136, u137, u138, u139, u140, u141, u142, u143, u144, u145, u146, u147, u148, u149, u150, u151, u152, u153, u154, u155, u156, u157, u158, u159, u160, u161, u162, u163, u164, u165, u166, u167, u168, u169, u170, u171, u172, u173, u174, u175, u176, u177, u178, u179, u180, u181, u182, u183, u184, u185, u186, u187, u188, u189, u190, u191, u192, u193, u194, u195, u196, u197, u198, u199, u200, u201, u202, u203, u204, u205, u206, u207, u208, u209, u210, u211, u212, u213, u214, u215, u216, u217, u218, u219, u220, u221, u222, u223, u224, u225, u226, u227, u228, u229, u230, u231, u232, u233, u234, u235, u236, u237, u238, u239, u240, u241, u242, u243, u244, u245, u246, u247, u248, u249, u250, u251, u252, u253, u254, u255, u256, u257, u258, u259, u260, u261, u262, u263, u264, u265, u266, u267, u268, u269, u270, u271, u272, u273, u274, u275, u276, u277, u278, u279, u280, u281, u282, u283, u284, u285, u286, u287, u288, u289, u290, u291, u292, u293, u294, u295, u296, u297, u298, u299, u300, u301, u302, u303, u304, u305, u306, u307, u308, u309, u310, u311, u312, u313, u314, u315, u316, u317, u318, u319, u320, u321, u322, u323, u324, u325, u326, u327, u328, u329, u330, u331, u332, u333, u334, u335, c336], []⟩ wr := by
  subst hx
  have ilt : (i : Int) < (L.length : Int) := by omega
  obtain ⟨c, d, hc1, hd1, hc, hd, hcd⟩ := which_two y
  have hand : bits .and .i64 y 1 = (c : Int) := (and_one y).trans hc1
  have hsub : IntKind.i64.wrap (1 - (c : Int)) = (d : Int) := by rw [hd1, IntKind.wrap_i64]; omega
  have clt : (c : Int) < 2 := by omega
  have dlt : (d : Int) < 2 := by omega
  obtain ⟨lb, lo, hla, hlb, hcell⟩ := (HL.out.later HTw.out.bel) (by intro q; rw [q] at hlt; simp at hlt)
  obtain ⟨e0, e1, e2⟩ := hcell i hlt
  rw [hxyz] at e0 e1 e2
  simp only at e0 e1 e2
  subst hla
  have LC : Hid (∀ wq, Below w.heap.size w wq → wq.cell? ⟨lb, lo + i * 3, none⟩ = some (.int .i64 7) ∧ wq.cell? ⟨lb, lo + i * 3 + 1, none⟩ = some (.int .i64 y) ∧ wq.cell? ⟨lb, lo + i * 3 + 2, none⟩ = some (.int .i64 z)) := fun wq b => by
    obtain ⟨lb', lo', e', _, hc'⟩ := (HL.out.later b) (by intro q; rw [q] at hlt; simp at hlt)
    simp only [Option.some.injEq, Addr.mk.injEq, and_true] at e'
    obtain ⟨rfl, rfl⟩ := e'
    have := hc' i hlt
    rw [hxyz] at this
    exact this
  have HX : Hid (L.getD i (0, 0, 0) = (7, y, z)) := hxyz
  obtain ⟨s1, s3⟩ := HTw.out.cell hc
  obtain ⟨s2, s4⟩ := HTw.out.cell hd
  have BR : Hid (Below wr.heap.size wr wr.drew) := (Below.refl _ _).drew
  have C1 : Hid (∀ wq, Below wr.heap.size wr wq → wq.cell? ⟨ks, c, none⟩ = some (.pointer (some ⟨K c + 1, 0, none⟩))) := fun wq b => cellL s1 b
  have C2 : Hid (∀ wq, Below wr.heap.size wr wq → wq.cell? ⟨ks, d, none⟩ = some (.pointer (some ⟨K d + 1, 0, none⟩))) := fun wq b => cellL s2 b
  have C3 : Hid (∀ wq, Below wr.heap.size wr wq → wq.cell? ⟨km, c, none⟩ = some (.pointer (some ⟨KH c, 0, none⟩))) := fun wq b => cellL s3 b
  have C4 : Hid (∀ wq, Below wr.heap.size wr wq → wq.cell? ⟨km, d, none⟩ = some (.pointer (some ⟨KH d, 0, none⟩))) := fun wq b => cellL s4 b
  clear hcell hlb hxyz s1 s2 s3 s4 hc1 hd1
  conv => arg 2; whnf
  go_wp2
  refine wp_region_q (C := fun wq => Below wr.heap.size wr wq) (by kernel_rfl) (by kernel_rfl) BR.out ?_
  iterate 22 (refine qt_yes (v := ?_) (by rfl) ?_ ?_; rotate_left; (· (intro wq hSw; have f0 := C1.out wq hSw; have f1 := C2.out wq hSw; have f2 := C3.out wq hSw; have f3 := C4.out wq hSw; clear hSw; go_simp; with_reducible rfl)); (try simp only [Act.put, List.setIfInBounds_toArray, List.set_cons_zero, List.set_cons_succ]))
  refine qt_nil ?_
  intro wq hSw
  have TQ : Hid (TwB w ks km K KB KH M S S wq) := HTw.out.later hSw
  obtain ⟨e0, e1, e2⟩ := LC.out wq TQ.out.bel
  clear hSw BR C1 C2 C3 C4 HTw
  have CP : Hid (Calls Tryd.prog 19 #[.pointer (some ⟨K c + 1, 0, none⟩)] wq fun e w' => e = .returned (.pointer (some ⟨wq.heap.size + 1, 0, none⟩)) ∧ P7 w ks km K KB KH M S c wq.heap.size (S c) w') := (copy_SB (TQ.out.sb c hc)).mono fun e w' ⟨q1, q2, q3⟩ => ⟨q1, P7.start TQ.out q2 q3⟩
  have hml := (TQ.out.mb c hc).ml
  clear TQ
  generalize wq.heap.size = kc at *
  go_wp2_with (go_at_call 19; refine CP.out.mono ?_; rintro e w3 ⟨rfl, p3⟩; have P3 : Hid (P7 w ks km K KB KH M S c kc (S c) w3) := p3; clear p3 e0 e1 e2 CP)
  go_loopw [21] (fun zv wr => ∃ (j X : Nat), j ≤ M c ∧ zv = .int .i64 (j : Int) ∧ P7 w ks km K KB KH M S c kc X wr) (fun zv _ => M c - (intOf zv).toNat)
  case atStart => exact ⟨0, _, Nat.zero_le _, rfl, P3.out⟩
  case round =>
    clear P3
    obtain ⟨j, X, hj, rfl, hP⟩ := hrel
    have HP : Hid (P7 w ks km K KB KH M S c kc X wr) := hP
    have hd0 := (hP.tw.mb c hc).head
    by_cases hjl : j < M c
    · have jlt : (j : Int) < (M c : Int) := by omega
      have AD : Hid (Calls Tryd.prog 7 #[.pointer (some ⟨K c + 1, 0, none⟩), .int .i64 (j : Int)] wr fun e w' => ∃ bv, e = .returned (.bool bv) ∧ ∃ X', P7 w ks km K KB KH M S c kc X' w') := hP.add hc (j : Int)
      clear hP
      go_wp2_with (go_at_call 7; refine AD.out.mono ?_; rintro e w4 ⟨bv, rfl, X4, p4⟩; have P4 : Hid (P7 w ks km K KB KH M S c kc X4 w4) := p4; clear p4 hd0)
      go_roundw
      case rel => exact ⟨j + 1, X4, by omega, by go_num, P4.out⟩
      case measure => simp [intOf]; omega
    · obtain rfl : j = M c := by omega
      have jlt : ¬ (M c : Int) < (M c : Int) := by omega
      have TF : Hid (TwB w ks km (upB K c kc) KB KH M S S (wr.setCell ⟨ks, c, none⟩ (.pointer (some ⟨kc + 1, 0, none⟩)))) := hP.fin hc
      have hcel := (hP.tw.cell hc).1
      have hfree := hP.tw.free c
      clear hP HP
      go_upto_region 45 with fail
      generalize (wr.setCell ⟨ks, c, none⟩ (.pointer (some ⟨kc + 1, 0, none⟩))) = w4 at *
      obtain ⟨wt, rfl⟩ : ∃ wt : World, wt = w4 := ⟨_, rfl⟩
      obtain ⟨K1, S1, TZ⟩ : ∃ K1 S1 : Nat → Nat, Hid (TwB w ks km K1 KB KH M S1 S1 wt) := ⟨_, _, TF.out⟩
      clear TF hcel hfree hd0 jlt
      have TZ0 := TZ.out.cell (show 0 < 2 by decide)
      have TZ1 := TZ.out.cell (show 1 < 2 by decide)
      have BR : Hid (Below wt.heap.size wt wt.drew) := (Below.refl _ _).drew
      have C1 : Hid (∀ wq, Below wt.heap.size wt wq → wq.cell? ⟨ks, 0, none⟩ = some (.pointer (some ⟨K1 0 + 1, 0, none⟩))) := fun wq b => cellL TZ0.1 b
      have C2 : Hid (∀ wq, Below wt.heap.size wt wq → wq.cell? ⟨ks, 1, none⟩ = some (.pointer (some ⟨K1 1 + 1, 0, none⟩))) := fun wq b => cellL TZ1.1 b
      have C3 : Hid (∀ wq, Below wt.heap.size wt wq → wq.cell? ⟨km, 0, none⟩ = some (.pointer (some ⟨KH 0, 0, none⟩))) := fun wq b => cellL TZ0.2 b
      have C4 : Hid (∀ wq, Below wt.heap.size wt wq → wq.cell? ⟨km, 1, none⟩ = some (.pointer (some ⟨KH 1, 0, none⟩))) := fun wq b => cellL TZ1.2 b
      have SM0 : Hid (∀ wq, Below wt.heap.size wt wq → Calls Tryd.prog 21 #[.pointer (some ⟨K1 0 + 1, 0, none⟩), .pointer (some ⟨KH 0, 0, none⟩)] wq fun e w' => e = .returned (.bool true) ∧ Below wt.heap.size wt w') := fun wq b => (same_M ((TZ.out.later b).sb 0 (by decide)) ((TZ.out.later b).mb 0 (by decide)) (HT.out.later (TZ.out.later b).bel)).mono fun e w' ⟨q1, q2⟩ => ⟨q1, b.trans (q2.mono b.size)⟩
      have SM1 : Hid (∀ wq, Below wt.heap.size wt wq → Calls Tryd.prog 21 #[.pointer (some ⟨K1 1 + 1, 0, none⟩), .pointer (some ⟨KH 1, 0, none⟩)] wq fun e w' => e = .returned (.bool true) ∧ Below wt.heap.size wt w') := fun wq b => (same_M ((TZ.out.later b).sb 1 (by decide)) ((TZ.out.later b).mb 1 (by decide)) (HT.out.later (TZ.out.later b).bel)).mono fun e w' ⟨q1, q2⟩ => ⟨q1, b.trans (q2.mono b.size)⟩
      clear TZ0 TZ1
      go_wp2
      refine wp_region_q (C := fun wq => Below wt.heap.size wt wq) (by kernel_rfl) (by kernel_rfl) BR.out ?_
      iterate 9 (refine qt_yes (v := ?_) (by rfl) ?_ ?_; rotate_left; (· (intro wq hSw; have f0 := C1.out wq hSw; have f1 := C2.out wq hSw; have f2 := C3.out wq hSw; have f3 := C4.out wq hSw; clear hSw; go_simp; with_reducible rfl)); (try simp only [Act.put, List.setIfInBounds_toArray, List.set_cons_zero, List.set_cons_succ]))
      refine qt_call (v := .bool true) 21 #[.pointer (some ⟨K1 0 + 1, 0, none⟩), .pointer (some ⟨KH 0, 0, none⟩)] (by rfl) ?_ (fun wq hq => SM0.out wq hq) ?_
      · intro wq hSw
        clear hSw
        go_simp
        try with_reducible rfl
      (try simp only [Act.put, List.setIfInBounds_toArray, List.set_cons_zero, List.set_cons_succ])
      iterate 9 (refine qt_yes (v := ?_) (by rfl) ?_ ?_; rotate_left; (· (intro wq hSw; have f0 := C1.out wq hSw; have f1 := C2.out wq hSw; have f2 := C3.out wq hSw; have f3 := C4.out wq hSw; clear hSw; go_simp; with_reducible rfl)); (try simp only [Act.put, List.setIfInBounds_toArray, List.set_cons_zero, List.set_cons_succ]))
      refine qt_call (v := .bool true) 21 #[.pointer (some ⟨K1 1 + 1, 0, none⟩), .pointer (some ⟨KH 1, 0, none⟩)] (by rfl) ?_ (fun wq hq => SM1.out wq hq) ?_
      · intro wq hSw
        clear hSw
        go_simp
        try with_reducible rfl
      (try simp only [Act.put, List.setIfInBounds_toArray, List.set_cons_zero, List.set_cons_succ])
      iterate 2 (refine qt_yes (v := ?_) (by rfl) ?_ ?_; rotate_left; (· (intro wq hSw; have f0 := C1.out wq hSw; have f1 := C2.out wq hSw; have f2 := C3.out wq hSw; have f3 := C4.out wq hSw; clear hSw; go_simp; with_reducible rfl)); (try simp only [Act.put, List.setIfInBounds_toArray, List.set_cons_zero, List.set_cons_succ]))
      refine qt_nil ?_
      intro wq2 hSw
      have TE : Hid (TwB w ks km K1 KB KH M S1 S1 wq2) := TZ.out.later hSw
      clear hSw BR C1 C2 C3 C4 SM0 SM1 TZ
      go_wp2
      refine ⟨?_, by simp [muS, intOf]; omega⟩
      unfold WIS
      exact ⟨_, _, _, _, _, _, _, _, _, _, _, _, _, _, _, _, _, _, _, _, _, _, _, _, _, _, _, _, _, _, _, _, _, _, _, _, _, _, _, _, _, _, _, _, _, _, _, _, _, _, _, _, _, _, _, _, _, _, _, _, _, _, _, _, _, _, _, _, _, _, _, _, _, _, _, _, _, _, _, _, _, _, _, _, _, _, _, _, _, _, _, _, _, _, _, _, _, _, _, _, _, _, _, _, _, _, _, _, _, _, _, _, _, _, _, _, _, _, _, _, _, _, _, _, _, _, _, _, _, _, _, _, _, _, _, _, _, _, _, _, _, _, _, _, _, _, _, _, _, _, _, _, _, _, _, _, _, _, _, _, _, _, _, _, _, _, _, _, _, _, _, _, _, _, _, _, _, _, _, _, _, _, _, _, _, _, _, _, _, _, _, _, _, _, _, _, _, _, _, _, _, _, _, _, _, _, _, _, _, _, _, _, _, _, _, _, _, _, _, _, _, _, _, _, _, _, _, _, _, _, _, _, _, _, _, _, _, _, i + 1, K1, S1, ⟨by omega, TE.out⟩, by first | rfl | (simp; done)⟩
end Go.Proofs.YtcjejnenklppiaaDoor
namespace Go.Proofs.YtcjejnenklppiaaDoor
set_option linter.unusedVariables false
open Go.RowKit Go.Shelf

theorem zero_page {Y m : Nat} (h : Y < 2 ^ m) (hb : ∀ t, t < m → Y.testBit t = false) : Y = 0 := by
  apply Nat.eq_of_testBit_eq
  intro j
  rw [Nat.zero_testBit]
  by_cases q : j < m
  · exact hb j q
  · exact bit_far h (by omega)
theorem TwB.bare {w wr : World} {ks km : Nat} {K KB KH M S : Nat → Nat} {c Y : Nat} (h : TwB w ks km K KB KH M (upB S c 0) (upB S c Y) wr) (hc : c < 2) (hb : ∀ t, t < M c → Y.testBit t = false) : TwB w ks km K KB KH M (upB S c 0) (upB S c 0) wr := by
  have h1 := (h.mb c hc).lt
  rw [upB_at] at h1
  obtain rfl := zero_page h1 hb
  exact h
theorem TwB.clear1 {w wr : World} {ks km : Nat} {K KB KH M S : Nat → Nat} {c Y j : Nat} (h : TwB w ks km K KB KH M (upB S c 0) (upB S c Y) wr) (hc : c < 2) (hj : j < M c) : TwB w ks km K KB KH M (upB S c 0) (upB S c (putN Y j false)) (wr.setCell ⟨KB c, j, none⟩ (.bool false)) := by
  have h1 := h.mb c hc
  rw [upB_at] at h1
  have := h.page hc (h1.set hj false) (frB_setCell wr (KB c) j (.bool false))
  rw [upB_up] at this
  exact this
set_option maxRecDepth 1000000 in
set_option maxHeartbeats 16000000 in
theorem sets_w8 {w : World} (m n : Nat) (la : Option Addr) (lc : Nat) (L : List (Int × Int × Int)) (ks km : Nat) (KB KH M : Nat → Nat) (hLl : L.length ≤ 140737488355328) (HL : Hid (StpB w la L)) (HT : Hid (TabB w)) (c3 c4 c5 c6 c7 c8 c9 c10 c24 c25 c26 c27 c28 c29 c30 c31 c32 c33 c34 c35 c36 c37 c38 c39 c40 c41 c42 c43 c44 c45 c46 c47 c48 c49 c50 c51 c52 c53 c54 c55 c56 c57 c58 c59 c60 c61 c62 c63 c64 c65 c66 c67 c68 c69 c70 c71 c72 c73 c74 c75 c76 c77 c78 c79 c80 c81 c82 c83 c84 c85 c86 c87 c88 c89 c90 c91 c92 c93 c94 c95 c96 c97 c98 c99 c100 c101 c102 c103 c104 c105 c106 c107 c336 : Value) (u14 u15 u16 u17 u18 u19 u20 u21 u22 u23 u108 u109 u110 u111 u112 u113 u114 u115 u116 u117 u118 u119 u120 u121 u122 u123 u124 u125 u126 u127 u128 u129 u130 u131 u132 u133 u134 u135 u136 u137 u138 u139 u140 u141 u142 u143 u144 u145 u146 u147 u148 u149 u150 u151 u152 u153 u154 u155 u156 u157 u158 u159 u160 u161 u162 u163 u164 u165 u166 u167 u168 u169 u170 u171 u172 u173 u174 u175 u176 u177 u178 u179 u180 u181 u182 u183 u184 u185 u186 u187 u188 u189 u190 u191 u192 u193 u194 u195 u196 u197 u198 u199 u200 u201 u202 u203 u204 u205 u206 u207 u208 u209 u210 u211 u212 u213 u214 u215 u216 u217 u218 u219 u220 u221 u222 u223 u224 u225 u226 u227 u228 u229 u230 u231 u232 u233 u234 u235 u236 u237 u238 u239 u240 u241 u242 u243 u244 u245 u246 u247 u248 u249 u250 u251 u252 u253 u254 u255 u256 u257 u258 u259 u260 u261 u262 u263 u264 u265 u266 u267 u268 u269 u270 u271 u272 u273 u274 u275 u276 u277 u278 u279 u280 u281 u282 u283 u284 u285 u286 u287 u288 u289 u290 u291 u292 u293 u294 u295 u296 u297 u298 u299 u300 u301 u302 u303 u304 u305 u306 u307 u308 u309 u310 u311 u312 u313 u314 u315 u316 u317 u318 u319 u320 u321 u322 u323 u324 u325 u326 u327 u328 u329 u330 u331 u332 u333 u334 u335 : Value) (i : Nat) (hlt : i < L.length) (K S : Nat → Nat) (wr : World) (HTw : Hid (TwB w ks km K KB KH M S S wr)) (x y z : Int) (hxyz : L.getD i (0, 0, 0) = (x, y, z)) (Q0 : Exit → Act → World → Prop) (hx : x = 8) (hQp : ∀ c (a : Act) d v w, Q0 (.panic c) (a.put d v) w → Q0 (.panic c) a w) :
    Code.wp Tryd.prog bodyS (Exit.then (fun a' w'' => WIS w m n la lc L ks km KB KH M c3 c4 c5 c6 c7 c8 c9 c10 c24 c25 c26 c27 c28 c29 c30 c31 c32 c33 c34 c35 c36 c37 c38 c39 c40 c41 c42 c43 c44 c45 c46 c47 c48 c49 c50 c51 c52 c53 c54 c55 c56 c57 c58 c59 c60 c61 c62 c63 c64 c65 c66 c67 c68 c69 c70 c71 c72 c73 c74 c75 c76 c77 c78 c79 c80 c81 c82 c83 c84 c85 c86 c87 c88 c89 c90 c91 c92 c93 c94 c95 c96 c97 c98 c99 c100 c101 c102 c103 c104 c105 c106 c107 c336 a' w'' ∧ muS L a' w'' < muS L ⟨#[.int .i64 (m : Int), .int .i64 (n : Int), .slice la L.length lc, c3, c4, c5, c6, c7, c8, c9, c10, .slice (some ⟨ks, 0, none⟩) 2 2, .slice (some ⟨km, 0, none⟩) 2 2, (.int .i64 (i : Int)), u14, u15, u16, u17, u18, u19, u20, u21, u22, u23, c24, c25, c26, c27, c28, c29, c30, c31, c32, c33, c34, c35, c36, c37, c38, c39, c40, c41, c42, c43, c44, c45, c46, c47, c48, c49, c50, c51, c52, c53, c54, c55, c56, c57, c58, c59, c60, c61, c62, c63, c64, c65, c66, c67, c68, c69, c70, c71, c72, c73, c74, c75, c76, c77, c78, c79, c80, c81, c82, c83, c84, c85, c86, c87, c88, c89, c90, c91, c92, c93, c94, c95, c96, c97, c98, c99, c100, c101, c102, c103, c104, c105, c106, c107, u108, u109, u110, u111, u112, u113, u114, u115, u116, u117, u118, u119, u120, u121, u122, u123, u124, u125, u126, u127, u128, u129, u130, u131, u132, u133, u134, u135, u136, u137, u138, u139, u140, u141, u142, u143, u144, u145, u146, u147, u148, u149, u150, u151, u152, u153, u154, u155, u156, u157, u158, u159, u160, u161, u162, u163, u164, u165, u166, u167, u168, u169, u170, u171, u172, u173, u174, u175, u176, u177, u178, u179, u180, u181, u182, u183, u184, u185, u186, u187, u188, u189, u190, u191, u192, u193, u194, u195, u196, u197, u198, u199, u200, u201, u202, u203, u204, u205, u206, u207, u208, u209, u210, u211, u212, u213, u214, u215, u216, u217, u218, u219, u220, u221, u222, u223, u224, u225, u226, u227, u228, u229, u230, u231, u232, u233, u234, u235, u236, u237, u238, u239, u240, u241, u242, u243, u244, u245, u246, u247, u248, u249, u250, u251, u252, u253, u254, u255, u256, u257, u258, u259, u260, u261, u262, u263, u264, u265, u266, u267, u268, u269, u270, u271, u272, u273, u274, u275, u276, u277, u278, u279, u280, u281, u282, u283, u284, u285, u286, u287, u288, u289, u290, u291, u292, u293, u294, u295, u296, u297, u298, u299, u300, u301, u302, u303, u304, u305, u306, u307, u308, u309, u310, u311, u312, u313, u314, u315, u316, u317, u318, u319, u320, u321, u322, u323, u324, u325, u326, u327, u328, u329, u330, u331, u332, u333, u334, u335, c336], []⟩ wr) Q0) ⟨#[.int .i64 (m : Int), .int .i64 (n : Int), .slice la L.length lc, c3, c4, c5, c6, c7, c8, c9, c10, .slice (some ⟨ks, 0, none⟩) 2 2, .slice (some ⟨km, 0, none⟩) 2 2, (.int .i64 (i : Int)), u14, u15, u16, u17, u18, u19, u20, u21, u22, u23, c24, c25, c26, c27, c28, c29, c30, c31, c32, c33, c34, c35, c36, c37, c38, c39, c40, c41, c42, c43, c44, c45, c46, c47, c48, c49, c50, c51, c52, c53, c54, c55, c56, c57, c58, c59, c60, c61, c62, c63, c64, c65, c66, c67, c68, c69, c70, c71, c72, c73, c74, c75, c76, c77, c78, c79, c80, c81, c82, c83, c84, c85, c86, c87, c88, c89, c90, c91, c92, c93, c94, c95, c96, c97, c98, c99, c100, c101, c102, c103, c104, c105, c106, c107, u108, u109, u110, u111, u112, u113, u114, u115, u116, u117, u118, u119, u120, u121, u122, u123, u124, u125, u126, u127, u128, u129, u130, u131, u132, u133, u134, u135, u136, u137, u138, u139, u140, u141, u142, u143, u144, u145, u146, u147, u148, u149, u150, u151, u152, u153, u154, u155, u156, u157, u158, u159, u160, u161, u162, u163, u164, u165, u166, u167, u168, u169, u170, u171, u172, u173, u174, u175, u176, u177, u178, u179, u180, u181, u182, u183, u184, u185, u186, u187, u188, u189, u190, u191, u192, u193, u194, u195, u196, u197, u198, u199, u200, u201, u202, u203, u204, u205, u206, u207, u208, u209, u210, u211, u212, u213, u214, u215, u216, u217, u218, u219, u220, u221, u222, u223, u224, u225, u226, u227, u228, u229, u230, u231, u232, u233, u234, u235, u236, u237, u238, u239, u240, u241, u242, u243, u244, u245, u246, u247, u248, u249, u250, u251, u252, u253, u254, u255, u256, u257, u258, u259, u260, u261, u262, u263, u264, u265, u266, u267, u268, u269, u270, u271, u272, u273, u274, u275, u276, u277, u278, u279, u280, u281, u282, u283, u284, u285, u286, u287, u288, u289, u290, u291, u292, u293, u294, u295, u296, u297, u298, u299, u300, u301, u302, u303, u304, u305, u306, u307, u308, u309, u310, u311, u312, u313, u314, u315, u316, u317, u318, u319, u320, u321, u322, u323, u324, u325, u326, u327, u328, u329, u330, u331, u332, u333, u334, u335, c336], []⟩ wr := by
  subst hx
  have ilt : (i : Int) < (L.length : Int) := by omega
  obtain ⟨c, d, hc1, hd1, hc, hd, hcd⟩ := which_two y
  have hand : bits .and .i64 y 1 = (c : Int) := (and_one y).trans hc1
  have hsub : IntKind.i64.wrap (1 - (c : Int)) = (d : Int) := by rw [hd1, IntKind.wrap_i64]; omega
  have clt : (c : Int) < 2 := by omega
  have dlt : (d : Int) < 2 := by omega
  obtain ⟨lb, lo, hla, hlb, hcell⟩ := (HL.out.later HTw.out.bel) (by intro q; rw [q] at hlt; simp at hlt)
  obtain ⟨e0, e1, e2⟩ := hcell i hlt
  rw [hxyz] at e0 e1 e2
  simp only at e0 e1 e2
  subst hla
  have LC : Hid (∀ wq, Below w.heap.size w wq → wq.cell? ⟨lb, lo + i * 3, none⟩ = some (.int .i64 8) ∧ wq.cell? ⟨lb, lo + i * 3 + 1, none⟩ = some (.int .i64 y) ∧ wq.cell? ⟨lb, lo + i * 3 + 2, none⟩ = some (.int .i64 z)) := fun wq b => by
    obtain ⟨lb', lo', e', _, hc'⟩ := (HL.out.later b) (by intro q; rw [q] at hlt; simp at hlt)
    simp only [Option.some.injEq, Addr.mk.injEq, and_true] at e'
    obtain ⟨rfl, rfl⟩ := e'
    have := hc' i hlt
    rw [hxyz] at this
    exact this
  have HX : Hid (L.getD i (0, 0, 0) = (8, y, z)) := hxyz
  obtain ⟨s1, s3⟩ := HTw.out.cell hc
  obtain ⟨s2, s4⟩ := HTw.out.cell hd
  have BR : Hid (Below wr.heap.size wr wr.drew) := (Below.refl _ _).drew
  have C1 : Hid (∀ wq, Below wr.heap.size wr wq → wq.cell? ⟨ks, c, none⟩ = some (.pointer (some ⟨K c + 1, 0, none⟩))) := fun wq b => cellL s1 b
  have C2 : Hid (∀ wq, Below wr.heap.size wr wq → wq.cell? ⟨ks, d, none⟩ = some (.pointer (some ⟨K d + 1, 0, none⟩))) := fun wq b => cellL s2 b
  have C3 : Hid (∀ wq, Below wr.heap.size wr wq → wq.cell? ⟨km, c, none⟩ = some (.pointer (some ⟨KH c, 0, none⟩))) := fun wq b => cellL s3 b
  have C4 : Hid (∀ wq, Below wr.heap.size wr wq → wq.cell? ⟨km, d, none⟩ = some (.pointer (some ⟨KH d, 0, none⟩))) := fun wq b => cellL s4 b
  clear hcell hlb hxyz s1 s2 s3 s4 hc1 hd1
  conv => arg 2; whnf
  go_wp2
  refine wp_region_q (C := fun wq => Below wr.heap.size wr wq) (by kernel_rfl) (by kernel_rfl) BR.out ?_
  iterate 22 (refine qt_yes (v := ?_) (by rfl) ?_ ?_; rotate_left; (· (intro wq hSw; have f0 := C1.out wq hSw; have f1 := C2.out wq hSw; have f2 := C3.out wq hSw; have f3 := C4.out wq hSw; clear hSw; go_simp; with_reducible rfl)); (try simp only [Act.put, List.setIfInBounds_toArray, List.set_cons_zero, List.set_cons_succ]))
  refine qt_nil ?_
  intro wq hSw
  have TQ : Hid (TwB w ks km K KB KH M S S wq) := HTw.out.later hSw
  obtain ⟨e0, e1, e2⟩ := LC.out wq TQ.out.bel
  clear hSw BR C1 C2 C3 C4 HTw
  by_cases hsc : S c = 0
  · obtain ⟨pn, hpn⟩ : ∃ pn, popB (S c) (M c) = pn := ⟨_, rfl⟩
    have hp0 : pn = 0 := by
      have := pop_some (TQ.out.sb c hc).lt
      rw [hpn, hsc] at this
      simp at this
      omega
    subst hp0
    have LM : Hid (Calls Tryd.prog 20 #[.pointer (some ⟨KH c, 0, none⟩)] wq fun e w' => ∃ a c', e = .returned (.slice a 0 c') ∧ TwB w ks km K KB KH M S S w') := (list_M (TQ.out.mb c hc)).mono fun e w' ⟨v, q1, q2⟩ => by
      obtain ⟨a, c', e2, _⟩ := q2.shape
      rw [hpn] at e2
      exact ⟨a, c', by rw [q1, e2], TQ.out.later q2.bel⟩
    have UO : Hid (∀ w', TwB w ks km K KB KH M S S w' → Calls Tryd.prog 12 #[.pointer (some ⟨K c + 1, 0, none⟩), .pointer (some ⟨K c + 1, 0, none⟩)] w' fun e w'' => e = .returned (.bool false) ∧ TwB w ks km K KB KH M S S w'') := fun w' t => (union_own (t.sb c hc)).mono fun e w'' ⟨q1, q2, q3⟩ => by
      rw [own_union (t.sb c hc).lt] at q1 q2
      refine ⟨by simpa using q1, ?_⟩
      have := t.set hc q2 q3
      rwa [upB_same] at this
    have MO : Hid (∀ w', TwB w ks km K KB KH M S S w' → Calls Tryd.prog 14 #[.pointer (some ⟨K c + 1, 0, none⟩), .pointer (some ⟨K c + 1, 0, none⟩)] w' fun e w'' => e = .returned (.bool false) ∧ TwB w ks km K KB KH M S S w'') := fun w' t => (meet_own (t.sb c hc)).mono fun e w'' ⟨q1, q2, q3⟩ => by
      rw [own_meet (t.sb c hc).lt] at q1 q2
      refine ⟨by simpa using q1, ?_⟩
      have := t.set hc q2 q3
      rwa [upB_same] at this
    have SO : Hid (∀ w', TwB w ks km K KB KH M S S w' → Calls Tryd.prog 16 #[.pointer (some ⟨K c + 1, 0, none⟩), .pointer (some ⟨K c + 1, 0, none⟩)] w' fun e w'' => e = .returned (.bool true) ∧ w'' = w') := fun w' t => (same_SB (t.sb c hc) (t.sb c hc)).mono fun e w'' ⟨q1, q2⟩ => ⟨by simpa using q1, q2⟩
    have WO : Hid (∀ w', TwB w ks km K KB KH M S S w' → Calls Tryd.prog 18 #[.pointer (some ⟨K c + 1, 0, none⟩), .pointer (some ⟨K c + 1, 0, none⟩)] w' fun e w'' => e = .returned (.bool true) ∧ w'' = w') := fun w' t => (within_SB (t.sb c hc) (t.sb c hc)).mono fun e w'' ⟨q1, q2⟩ => ⟨by rw [q1, decide_eq_true (minus_zeroB.2 fun j q => q)], q2⟩
    have NO : Hid (∀ w', TwB w ks km K KB KH M S S w' → Calls Tryd.prog 15 #[.pointer (some ⟨K c + 1, 0, none⟩), .pointer (some ⟨K c + 1, 0, none⟩)] w' fun e w'' => e = .returned (.bool false) ∧ TwB w ks km K KB KH M (upB S c 0) (upB S c (S c)) w'') := fun w' t => (minus_own (t.sb c hc)).mono fun e w'' ⟨q1, q2, q3⟩ => by
      rw [own_minus] at q1 q2
      exact ⟨by rw [q1]; exact congrArg (fun b => Ending.returned (.bool b)) (decide_eq_false (fun h => h hsc.symm)), by rw [upB_same]; exact t.set hc q2 q3⟩
    have hml := (TQ.out.mb c hc).ml
    clear TQ hsc hpn
    go_wp2_with (first
      | (go_at_call 20; refine LM.out.mono ?_; rintro e w3 ⟨a, c', rfl, t3⟩; have T3 : Hid (TwB w ks km K KB KH M S S w3) := t3; clear t3 e0 e1 e2)
      | (go_at_call 12; refine (UO.out _ T3.out).mono ?_; rintro e w4 ⟨rfl, t4⟩; have T4 : Hid (TwB w ks km K KB KH M S S w4) := t4; clear t4)
      | (go_at_call 14; refine (MO.out _ T4.out).mono ?_; rintro e w5 ⟨rfl, t5⟩; have T5 : Hid (TwB w ks km K KB KH M S S w5) := t5; clear t5)
      | (go_at_call 16; refine (SO.out _ T5.out).mono ?_; rintro e w9 ⟨rfl, hz⟩; rw [hz]; clear hz w9)
      | (go_at_call 18; refine (WO.out _ T5.out).mono ?_; rintro e w9 ⟨rfl, hz⟩; rw [hz]; clear hz w9)
      | (go_at_call 15; refine (NO.out _ T5.out).mono ?_; rintro e w6 ⟨rfl, t6⟩; have T6 : Hid (TwB w ks km K KB KH M (upB S c 0) (upB S c (S c)) w6) := t6; clear t6))
    clear T3 T4 T5 LM UO MO SO WO NO
    go_loopw [23] (fun zv wr => ∃ (j Y : Nat), j ≤ M c ∧ zv = .int .i64 (j : Int) ∧ TwB w ks km K KB KH M (upB S c 0) (upB S c Y) wr ∧ ∀ t, t < j → Y.testBit t = false) (fun zv _ => M c - (intOf zv).toNat)
    case atStart => exact ⟨0, S c, Nat.zero_le _, rfl, T6.out, fun t ht => absurd ht (Nat.not_lt_zero _)⟩
    case round =>
      clear T6
      obtain ⟨j, Y, hj, rfl, hT2, hY⟩ := hrel
      have HY : Hid (∀ t, t < j → Y.testBit t = false) := hY
      have HT2 : Hid (TwB w ks km K KB KH M (upB S c 0) (upB S c Y) wr) := hT2
      have hd0 := (hT2.mb c hc).head
      clear hY
      by_cases hjl : j < M c
      · have jlt : (j : Int) < (M c : Int) := by omega
        have hcel := (hT2.mb c hc).at hjl
        have hfree := (hT2.mb c hc).free j
        have TN : Hid (TwB w ks km K KB KH M (upB S c 0) (upB S c (putN Y j false)) (wr.setCell ⟨KB c, j, none⟩ (.bool false))) := hT2.clear1 hc hjl
        have HN : Hid (∀ t, t < j + 1 → (putN Y j false).testBit t = false) := fun t ht => by
          rw [putN_bit]
          by_cases q : j = t
          · rw [if_pos q]
          · rw [if_neg q]; exact HY.out t (by omega)
        generalize ((upB S c Y) c).testBit j = bo at *
        clear hT2
        go_wp2
        go_roundw
        case rel => exact ⟨j + 1, _, by omega, by go_num, TN.out, HN.out⟩
        case measure => simp [intOf]; omega
      · obtain rfl : j = M c := by omega
        have jlt : ¬ (M c : Int) < (M c : Int) := by omega
        have TF : Hid (TwB w ks km K KB KH M (upB S c 0) (upB S c 0) wr) := hT2.bare hc HY.out
        clear hT2 HT2
        go_upto_region 45 with fail
        obtain ⟨w4, rfl⟩ : ∃ w4 : World, w4 = wr := ⟨_, rfl⟩
        obtain ⟨wt, rfl⟩ : ∃ wt : World, wt = w4 := ⟨_, rfl⟩
        obtain ⟨K1, S1, TZ⟩ : ∃ K1 S1 : Nat → Nat, Hid (TwB w ks km K1 KB KH M S1 S1 wt) := ⟨_, _, TF.out⟩
        clear TF hd0 jlt HY
        have TZ0 := TZ.out.cell (show 0 < 2 by decide)
        have TZ1 := TZ.out.cell (show 1 < 2 by decide)
        have BR : Hid (Below wt.heap.size wt wt.drew) := (Below.refl _ _).drew
        have C1 : Hid (∀ wq, Below wt.heap.size wt wq → wq.cell? ⟨ks, 0, none⟩ = some (.pointer (some ⟨K1 0 + 1, 0, none⟩))) := fun wq b => cellL TZ0.1 b
        have C2 : Hid (∀ wq, Below wt.heap.size wt wq → wq.cell? ⟨ks, 1, none⟩ = some (.pointer (some ⟨K1 1 + 1, 0, none⟩))) := fun wq b => cellL TZ1.1 b
        have C3 : Hid (∀ wq, Below wt.heap.size wt wq → wq.cell? ⟨km, 0, none⟩ = some (.pointer (some ⟨KH 0, 0, none⟩))) := fun wq b => cellL TZ0.2 b
        have C4 : Hid (∀ wq, Below wt.heap.size wt wq → wq.cell? ⟨km, 1, none⟩ = some (.pointer (some ⟨KH 1, 0, none⟩))) := fun wq b => cellL TZ1.2 b
        have SM0 : Hid (∀ wq, Below wt.heap.size wt wq → Calls Tryd.prog 21 #[.pointer (some ⟨K1 0 + 1, 0, none⟩), .pointer (some ⟨KH 0, 0, none⟩)] wq fun e w' => e = .returned (.bool true) ∧ Below wt.heap.size wt w') := fun wq b => (same_M ((TZ.out.later b).sb 0 (by decide)) ((TZ.out.later b).mb 0 (by decide)) (HT.out.later (TZ.out.later b).bel)).mono fun e w' ⟨q1, q2⟩ => ⟨q1, b.trans (q2.mono b.size)⟩
        have SM1 : Hid (∀ wq, Below wt.heap.size wt wq → Calls Tryd.prog 21 #[.pointer (some ⟨K1 1 + 1, 0, none⟩), .pointer (some ⟨KH 1, 0, none⟩)] wq fun e w' => e = .returned (.bool true) ∧ Below wt.heap.size wt w') := fun wq b => (same_M ((TZ.out.later b).sb 1 (by decide)) ((TZ.out.later b).mb 1 (by decide)) (HT.out.later (TZ.out.later b).bel)).mono fun e w' ⟨q1, q2⟩ => ⟨q1, b.trans (q2.mono b.size)⟩
        clear TZ0 TZ1
        go_wp2
        refine wp_region_q (C := fun wq => Below wt.heap.size wt wq) (by kernel_rfl) (by kernel_rfl) BR.out ?_
        iterate 9 (refine qt_yes (v := ?_) (by rfl) ?_ ?_; rotate_left; (· (intro wq hSw; have f0 := C1.out wq hSw; have f1 := C2.out wq hSw; have f2 := C3.out wq hSw; have f3 := C4.out wq hSw; clear hSw; go_simp; with_reducible rfl)); (try simp only [Act.put, List.setIfInBounds_toArray, List.set_cons_zero, List.set_cons_succ]))
        refine qt_call (v := .bool true) 21 #[.pointer (some ⟨K1 0 + 1, 0, none⟩), .pointer (some ⟨KH 0, 0, none⟩)] (by rfl) ?_ (fun wq hq => SM0.out wq hq) ?_
        · intro wq hSw
          clear hSw
          go_simp
          try with_reducible rfl
        (try simp only [Act.put, List.setIfInBounds_toArray, List.set_cons_zero, List.set_cons_succ])
        iterate 9 (refine qt_yes (v := ?_) (by rfl) ?_ ?_; rotate_left; (· (intro wq hSw; have f0 := C1.out wq hSw; have f1 := C2.out wq hSw; have f2 := C3.out wq hSw; have f3 := C4.out wq hSw; clear hSw; go_simp; with_reducible rfl)); (try simp only [Act.put, List.setIfInBounds_toArray, List.set_cons_zero, List.set_cons_succ]))
        refine qt_call (v := .bool true) 21 #[.pointer (some ⟨K1 1 + 1, 0, none⟩), .pointer (some ⟨KH 1, 0, none⟩)] (by rfl) ?_ (fun wq hq => SM1.out wq hq) ?_
        · intro wq hSw
          clear hSw
          go_simp
          try with_reducible rfl
        (try simp only [Act.put, List.setIfInBounds_toArray, List.set_cons_zero, List.set_cons_succ])
        iterate 2 (refine qt_yes (v := ?_) (by rfl) ?_ ?_; rotate_left; (· (intro wq hSw; have f0 := C1.out wq hSw; have f1 := C2.out wq hSw; have f2 := C3.out wq hSw; have f3 := C4.out wq hSw; clear hSw; go_simp; with_reducible rfl)); (try simp only [Act.put, List.setIfInBounds_toArray, List.set_cons_zero, List.set_cons_succ]))
        refine qt_nil ?_
        intro wq2 hSw
        have TE : Hid (TwB w ks km K1 KB KH M S1 S1 wq2) := TZ.out.later hSw
        clear hSw BR C1 C2 C3 C4 SM0 SM1 TZ
        go_wp2
        refine ⟨?_, by simp [muS, intOf]; omega⟩
        unfold WIS
        exact ⟨_, _, _, _, _, _, _, _, _, _, _, _, _, _, _, _, _, _, _, _, _, _, _, _, _, _, _, _, _, _, _, _, _, _, _, _, _, _, _, _, _, _, _, _, _, _, _, _, _, _, _, _, _, _, _, _, _, _, _, _, _, _, _, _, _, _, _, _, _, _, _, _, _, _, _, _, _, _, _, _, _, _, _, _, _, _, _, _, _, _, _, _, _, _, _, _, _, _, _, _, _, _, _, _, _, _, _, _, _, _, _, _, _, _, _, _, _, _, _, _, _, _, _, _, _, _, _, _, _, _, _, _, _, _, _, _, _, _, _, _, _, _, _, _, _, _, _, _, _, _, _, _, _, _, _, _, _, _, _, _, _, _, _, _, _, _, _, _, _, _, _, _, _, _, _, _, _, _, _, _, _, _, _, _, _, _, _, _, _, _, _, _, _, _, _, _, _, _, _, _, _, _, _, _, _, _, _, _, _, _, _, _, _, _, _, _, _, _, _, _, _, _, _, _, _, _, _, _, _, _, _, _, _, _, _, _, _, _, i + 1, K1, S1, ⟨by omega, TE.out⟩, by first | rfl | (simp; done)⟩
  · obtain ⟨pn, hpn⟩ : ∃ pn, popB (S c) (M c) = pn := ⟨_, rfl⟩
    have hp0 : 0 < pn := by
      have := pop_some (TQ.out.sb c hc).lt
      rw [hpn, decide_eq_true (show (0 : Nat) ≠ S c from fun e => hsc e.symm)] at this
      exact of_decide_eq_true this
    have hp1 : (0 : Int) < (pn : Int) := by omega
    have LM : Hid (Calls Tryd.prog 20 #[.pointer (some ⟨KH c, 0, none⟩)] wq fun e w' => ∃ a c', e = .returned (.slice a pn c') ∧ TwB w ks km K KB KH M S S w') := (list_M (TQ.out.mb c hc)).mono fun e w' ⟨v, q1, q2⟩ => by
      obtain ⟨a, c', e2, _⟩ := q2.shape
      rw [hpn] at e2
      exact ⟨a, c', by rw [q1, e2], TQ.out.later q2.bel⟩
    have UO : Hid (∀ w', TwB w ks km K KB KH M S S w' → Calls Tryd.prog 12 #[.pointer (some ⟨K c + 1, 0, none⟩), .pointer (some ⟨K c + 1, 0, none⟩)] w' fun e w'' => e = .returned (.bool false) ∧ TwB w ks km K KB KH M S S w'') := fun w' t => (union_own (t.sb c hc)).mono fun e w'' ⟨q1, q2, q3⟩ => by
      rw [own_union (t.sb c hc).lt] at q1 q2
      refine ⟨by simpa using q1, ?_⟩
      have := t.set hc q2 q3
      rwa [upB_same] at this
    have MO : Hid (∀ w', TwB w ks km K KB KH M S S w' → Calls Tryd.prog 14 #[.pointer (some ⟨K c + 1, 0, none⟩), .pointer (some ⟨K c + 1, 0, none⟩)] w' fun e w'' => e = .returned (.bool false) ∧ TwB w ks km K KB KH M S S w'') := fun w' t => (meet_own (t.sb c hc)).mono fun e w'' ⟨q1, q2, q3⟩ => by
      rw [own_meet (t.sb c hc).lt] at q1 q2
      refine ⟨by simpa using q1, ?_⟩
      have := t.set hc q2 q3
      rwa [upB_same] at this
    have SO : Hid (∀ w', TwB w ks km K KB KH M S S w' → Calls Tryd.prog 16 #[.pointer (some ⟨K c + 1, 0, none⟩), .pointer (some ⟨K c + 1, 0, none⟩)] w' fun e w'' => e = .returned (.bool true) ∧ w'' = w') := fun w' t => (same_SB (t.sb c hc) (t.sb c hc)).mono fun e w'' ⟨q1, q2⟩ => ⟨by simpa using q1, q2⟩
    have WO : Hid (∀ w', TwB w ks km K KB KH M S S w' → Calls Tryd.prog 18 #[.pointer (some ⟨K c + 1, 0, none⟩), .pointer (some ⟨K c + 1, 0, none⟩)] w' fun e w'' => e = .returned (.bool true) ∧ w'' = w') := fun w' t => (within_SB (t.sb c hc) (t.sb c hc)).mono fun e w'' ⟨q1, q2⟩ => ⟨by rw [q1, decide_eq_true (minus_zeroB.2 fun j q => q)], q2⟩
    have NO : Hid (∀ w', TwB w ks km K KB KH M S S w' → Calls Tryd.prog 15 #[.pointer (some ⟨K c + 1, 0, none⟩), .pointer (some ⟨K c + 1, 0, none⟩)] w' fun e w'' => e = .returned (.bool true) ∧ TwB w ks km K KB KH M (upB S c 0) (upB S c (S c)) w'') := fun w' t => (minus_own (t.sb c hc)).mono fun e w'' ⟨q1, q2, q3⟩ => by
      rw [own_minus] at q1 q2
      exact ⟨by rw [q1]; exact congrArg (fun b => Ending.returned (.bool b)) (decide_eq_true (fun h => hsc h.symm)), by rw [upB_same]; exact t.set hc q2 q3⟩
    have hml := (TQ.out.mb c hc).ml
    clear TQ hsc hpn
    go_wp2_with (first
      | (go_at_call 20; refine LM.out.mono ?_; rintro e w3 ⟨a, c', rfl, t3⟩; have T3 : Hid (TwB w ks km K KB KH M S S w3) := t3; clear t3 e0 e1 e2)
      | (go_at_call 12; refine (UO.out _ T3.out).mono ?_; rintro e w4 ⟨rfl, t4⟩; have T4 : Hid (TwB w ks km K KB KH M S S w4) := t4; clear t4)
      | (go_at_call 14; refine (MO.out _ T4.out).mono ?_; rintro e w5 ⟨rfl, t5⟩; have T5 : Hid (TwB w ks km K KB KH M S S w5) := t5; clear t5)
      | (go_at_call 16; refine (SO.out _ T5.out).mono ?_; rintro e w9 ⟨rfl, hz⟩; rw [hz]; clear hz w9)
      | (go_at_call 18; refine (WO.out _ T5.out).mono ?_; rintro e w9 ⟨rfl, hz⟩; rw [hz]; clear hz w9)
      | (go_at_call 15; refine (NO.out _ T5.out).mono ?_; rintro e w6 ⟨rfl, t6⟩; have T6 : Hid (TwB w ks km K KB KH M (upB S c 0) (upB S c (S c)) w6) := t6; clear t6))
    clear T3 T4 T5 LM UO MO SO WO NO
    go_loopw [23] (fun zv wr => ∃ (j Y : Nat), j ≤ M c ∧ zv = .int .i64 (j : Int) ∧ TwB w ks km K KB KH M (upB S c 0) (upB S c Y) wr ∧ ∀ t, t < j → Y.testBit t = false) (fun zv _ => M c - (intOf zv).toNat)
    case atStart => exact ⟨0, S c, Nat.zero_le _, rfl, T6.out, fun t ht => absurd ht (Nat.not_lt_zero _)⟩
    case round =>
      clear T6
      obtain ⟨j, Y, hj, rfl, hT2, hY⟩ := hrel
      have HY : Hid (∀ t, t < j → Y.testBit t = false) := hY
      have HT2 : Hid (TwB w ks km K KB KH M (upB S c 0) (upB S c Y) wr) := hT2
      have hd0 := (hT2.mb c hc).head
      clear hY
      by_cases hjl : j < M c
      · have jlt : (j : Int) < (M c : Int) := by omega
        have hcel := (hT2.mb c hc).at hjl
        have hfree := (hT2.mb c hc).free j
        have TN : Hid (TwB w ks km K KB KH M (upB S c 0) (upB S c (putN Y j false)) (wr.setCell ⟨KB c, j, none⟩ (.bool false))) := hT2.clear1 hc hjl
        have HN : Hid (∀ t, t < j + 1 → (putN Y j false).testBit t = false) := fun t ht => by
          rw [putN_bit]
          by_cases q : j = t
          · rw [if_pos q]
          · rw [if_neg q]; exact HY.out t (by omega)
        generalize ((upB S c Y) c).testBit j = bo at *
        clear hT2
        go_wp2
        go_roundw
        case rel => exact ⟨j + 1, _, by omega, by go_num, TN.out, HN.out⟩
        case measure => simp [intOf]; omega
      · obtain rfl : j = M c := by omega
        have jlt : ¬ (M c : Int) < (M c : Int) := by omega
        have TF : Hid (TwB w ks km K KB KH M (upB S c 0) (upB S c 0) wr) := hT2.bare hc HY.out
        clear hT2 HT2
        go_upto_region 45 with fail
        obtain ⟨w4, rfl⟩ : ∃ w4 : World, w4 = wr := ⟨_, rfl⟩
        obtain ⟨wt, rfl⟩ : ∃ wt : World, wt = w4 := ⟨_, rfl⟩
        obtain ⟨K1, S1, TZ⟩ : ∃ K1 S1 : Nat → Nat, Hid (TwB w ks km K1 KB KH M S1 S1 wt) := ⟨_, _, TF.out⟩
        clear TF hd0 jlt HY
        have TZ0 := TZ.out.cell (show 0 < 2 by decide)
        have TZ1 := TZ.out.cell (show 1 < 2 by decide)
        have BR : Hid (Below wt.heap.size wt wt.drew) := (Below.refl _ _).drew
        have C1 : Hid (∀ wq, Below wt.heap.size wt wq → wq.cell? ⟨ks, 0, none⟩ = some (.pointer (some ⟨K1 0 + 1, 0, none⟩))) := fun wq b => cellL TZ0.1 b
        have C2 : Hid (∀ wq, Below wt.heap.size wt wq → wq.cell? ⟨ks, 1, none⟩ = some (.pointer (some ⟨K1 1 + 1, 0, none⟩))) := fun wq b => cellL TZ1.1 b
        have C3 : Hid (∀ wq, Below wt.heap.size wt wq → wq.cell? ⟨km, 0, none⟩ = some (.pointer (some ⟨KH 0, 0, none⟩))) := fun wq b => cellL TZ0.2 b
        have C4 : Hid (∀ wq, Below wt.heap.size wt wq → wq.cell? ⟨km, 1, none⟩ = some (.pointer (some ⟨KH 1, 0, none⟩))) := fun wq b => cellL TZ1.2 b
        have SM0 : Hid (∀ wq, Below wt.heap.size wt wq → Calls Tryd.prog 21 #[.pointer (some ⟨K1 0 + 1, 0, none⟩), .pointer (some ⟨KH 0, 0, none⟩)] wq fun e w' => e = .returned (.bool true) ∧ Below wt.heap.size wt w') := fun wq b => (same_M ((TZ.out.later b).sb 0 (by decide)) ((TZ.out.later b).mb 0 (by decide)) (HT.out.later (TZ.out.later b).bel)).mono fun e w' ⟨q1, q2⟩ => ⟨q1, b.trans (q2.mono b.size)⟩
        have SM1 : Hid (∀ wq, Below wt.heap.size wt wq → Calls Tryd.prog 21 #[.pointer (some ⟨K1 1 + 1, 0, none⟩), .pointer (some ⟨KH 1, 0, none⟩)] wq fun e w' => e = .returned (.bool true) ∧ Below wt.heap.size wt w') := fun wq b => (same_M ((TZ.out.later b).sb 1 (by decide)) ((TZ.out.later b).mb 1 (by decide)) (HT.out.later (TZ.out.later b).bel)).mono fun e w' ⟨q1, q2⟩ => ⟨q1, b.trans (q2.mono b.size)⟩
        clear TZ0 TZ1
        go_wp2
        refine wp_region_q (C := fun wq => Below wt.heap.size wt wq) (by kernel_rfl) (by kernel_rfl) BR.out ?_
        iterate 9 (refine qt_yes (v := ?_) (by rfl) ?_ ?_; rotate_left; (· (intro wq hSw; have f0 := C1.out wq hSw; have f1 := C2.out wq hSw; have f2 := C3.out wq hSw; have f3 := C4.out wq hSw; clear hSw; go_simp; with_reducible rfl)); (try simp only [Act.put, List.setIfInBounds_toArray, List.set_cons_zero, List.set_cons_succ]))
        refine qt_call (v := .bool true) 21 #[.pointer (some ⟨K1 0 + 1, 0, none⟩), .pointer (some ⟨KH 0, 0, none⟩)] (by rfl) ?_ (fun wq hq => SM0.out wq hq) ?_
        · intro wq hSw
          clear hSw
          go_simp
          try with_reducible rfl
        (try simp only [Act.put, List.setIfInBounds_toArray, List.set_cons_zero, List.set_cons_succ])
        iterate 9 (refine qt_yes (v := ?_) (by rfl) ?_ ?_; rotate_left; (· (intro wq hSw; have f0 := C1.out wq hSw; have f1 := C2.out wq hSw; have f2 := C3.out wq hSw; have f3 := C4.out wq hSw; clear hSw; go_simp; with_reducible rfl)); (try simp only [Act.put, List.setIfInBounds_toArray, List.set_cons_zero, List.set_cons_succ]))
        refine qt_call (v := .bool true) 21 #[.pointer (some ⟨K1 1 + 1, 0, none⟩), .pointer (some ⟨KH 1, 0, none⟩)] (by rfl) ?_ (fun wq hq => SM1.out wq hq) ?_
        · intro wq hSw
          clear hSw
          go_simp
          try with_reducible rfl
        (try simp only [Act.put, List.setIfInBounds_toArray, List.set_cons_zero, List.set_cons_succ])
        iterate 2 (refine qt_yes (v := ?_) (by rfl) ?_ ?_; rotate_left; (· (intro wq hSw; have f0 := C1.out wq hSw; have f1 := C2.out wq hSw; have f2 := C3.out wq hSw; have f3 := C4.out wq hSw; clear hSw; go_simp; with_reducible rfl)); (try simp only [Act.put, List.setIfInBounds_toArray, List.set_cons_zero, List.set_cons_succ]))
        refine qt_nil ?_
        intro wq2 hSw
        have TE : Hid (TwB w ks km K1 KB KH M S1 S1 wq2) := TZ.out.later hSw
        clear hSw BR C1 C2 C3 C4 SM0 SM1 TZ
        go_wp2
        refine ⟨?_, by simp [muS, intOf]; omega⟩
        unfold WIS
        exact ⟨_, _, _, _, _, _, _, _, _, _, _, _, _, _, _, _, _, _, _, _, _, _, _, _, _, _, _, _, _, _, _, _, _, _, _, _, _, _, _, _, _, _, _, _, _, _, _, _, _, _, _, _, _, _, _, _, _, _, _, _, _, _, _, _, _, _, _, _, _, _, _, _, _, _, _, _, _, _, _, _, _, _, _, _, _, _, _, _, _, _, _, _, _, _, _, _, _, _, _, _, _, _, _, _, _, _, _, _, _, _, _, _, _, _, _, _, _, _, _, _, _, _, _, _, _, _, _, _, _, _, _, _, _, _, _, _, _, _, _, _, _, _, _, _, _, _, _, _, _, _, _, _, _, _, _, _, _, _, _, _, _, _, _, _, _, _, _, _, _, _, _, _, _, _, _, _, _, _, _, _, _, _, _, _, _, _, _, _, _, _, _, _, _, _, _, _, _, _, _, _, _, _, _, _, _, _, _, _, _, _, _, _, _, _, _, _, _, _, _, _, _, _, _, _, _, _, _, _, _, _, _, _, _, _, _, _, _, _, i + 1, K1, S1, ⟨by omega, TE.out⟩, by first | rfl | (simp; done)⟩
end Go.Proofs.YtcjejnenklppiaaDoor
