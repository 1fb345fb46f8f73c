import Derived.Test.YtfgdpmcpjpceoaaPTT8
import Derived.Test.YtfgdpmcpjpceoaaPTF1
import Derived.Test.YtfgdpmcpjpceoaaPFThyToFSame
import Derived.Test.YtfgdpmcpjpceoaaPFSamToFClo
import Derived.Test.YtfgdpmcpjpceoaaPFW1
import Derived.Test.YtfgdpmcpjpceoaaPFThreeToFChk8
import Derived.Test.YtfgdpmcpjpceoaaPGCheckR
namespace Go.Proofs.Ytfgdpmcpjpceoaa
set_option linter.unusedVariables false
set_option maxRecDepth 100000
set_option maxHeartbeats 16000000
open Go.RowKit
structure FTw (w : World) (g : GV) (t : TV) (nb mb : Nat) (F : List BS) (wr : World) : Prop where
 bel : Below w.heap.size w wr
 gb : wr.heap[w.heap.size]? = some (gBox g)
 tb : wr.heap[w.heap.size + 1]? = some (tBox t)
 nl : BB wr nb (nullU g.ps g.ns.length)
 fl : LsRow wr (some ⟨mb, 0, none⟩) (listsU F)
theorem FTw.any {w : World} {g : GV} {t : TV} {nb mb : Nat} {F : List BS} {wr w' : World} (h : FTw w g t nb mb F wr) (hb : Below wr.heap.size wr w') : FTw w g t nb mb F w' :=
 ⟨h.bel.trans (hb.mono h.bel.size), tbox_on h.gb hb, tbox_on h.tb hb, h.nl.later hb, h.fl.later hb⟩
theorem null_closT {g : GV} (hg : GP g) : ClosN (nullU g.ps g.ns.length) g.ps := fun p hp h => (nullU_iff _).2 (htU_closed g.ps g.ns.length hg.left p hp (fun s hs => ⟨(h s hs).1, (nullU_iff _).1 (h s hs).2⟩))
theorem chkNU_zero {g : GV} {N : List Bool} (h : (chkNU g N 0).1 = 0) : N.length = g.ns.length /\ (chkN N g.ps).1 = 0 := by
 unfold chkNU at h
 by_cases q : askU g N.length 0 = 0
 ·rw [if_neg (by simpa using q)] at h
  refine ⟨?_, h⟩
  by_cases z : N.length = g.ns.length
  ·exact z
  ·simp [askU, z] at q
 ·rw [if_pos q] at h
  exact absurd h q
theorem chkFU_zero {g : GV} {N : List Bool} {L : List (List Int)} (h : (chkFU g N L 0).1 = 0) : L.length = g.ns.length /\ (chkF N L g.ps g.ts.length).1 = 0 := by
 unfold chkFU at h
 by_cases q : askC g N.length L.length 0 = 0
 ·rw [if_neg (by simpa using q)] at h
  refine ⟨?_, h⟩
  by_cases z1 : N.length = g.ns.length
  ·by_cases z : L.length = g.ns.length
   ·exact z
   ·simp [askC, askU, z, z1] at q
  ·simp [askC, askU, z1] at q
 ·rw [if_pos q] at h
  exact absurd h q
theorem lsrow_getD {w : World} {fa : Option Addr} {k : Nat} {L : List (List Int)} (h : LsRow w fa L) (hk : k < L.length) : ∃ b off, fa = some ⟨b, off, none⟩ /\ b < w.heap.size /\ ∃ a c, w.cell? ⟨b, off + k, none⟩ = some (.slice a (L.getD k []).length c) /\ InRow w a (L.getD k []) := by
 obtain ⟨b, off, e, hb, hc⟩ := h (by intro q; rw [q] at hk; simp at hk)
 exact ⟨b, off, e, hb, hc k hk⟩
theorem tree_none {g : GV} {t : TV} {m : Nat} (hg : GP g) (hr : RT g t) (ho : rootU g t = (2, (m : Int))) (hl : leafs (plT 0 t) = []) : (nullU g.ps g.ns.length).getD m false = true /\ 1 <= (htU g.ps g.ns.length g.ns.length).getD m 0 /\ (htU g.ps g.ns.length g.ns.length).getD m 0 <= (hgT t : Int) := by
 have e : lv (plT 0 t) = [] := by rw [<- leafs_lv, hl]; rfl
 obtain ⟨-, h1, h2⟩ := RT.high hg t hr 0 e
 rw [ho] at h1 h2
 have h3 := (htU_bd g.ps g.ns.length g.ns.length m).1
 rw [Int.toNat_natCast] at h1 h2
 exact ⟨(nullU_iff _).2 h1, by omega, h2⟩
theorem tree_some {g : GV} {t : TV} {m : Nat} {F : List BS} {x : SP} {r : List SP} (hg : GP g) (hr : RT g t) (hF : LeastF g F) (ho : rootU g t = (2, (m : Int))) (hl : leafs (plT 0 t) = x :: r) : x.t.kind ∈ (listsU F).getD m [] := by
 have e : lv (plT 0 t) = x.t.kind :: r.map (·.t.kind) := by rw [<- leafs_lv, hl]; rfl
 have hcl : ClosF (nullU g.ps g.ns.length) g.ps F := by
  obtain ⟨k, _, h2, _, h4⟩ := hF
  exact fix_closed h2 (fun p hp => by have := hg.left p hp; omega)
 obtain ⟨h1, h2⟩ := (RT.say hg (null_closT hg) hcl t hr 0).2 _ _ e
 have h3 := h2 (0, 0)
 rw [ho] at h3
 unfold aheadS at h3
 rw [if_neg (show ¬ (2 : Int) = 1 by decide)] at h3
 have h4 : hasS (F.getD m (0, 0)) x.t.kind.toNat = true := by
  split at h3
  ·rw [hasS_with, hasS_zero, Bool.false_or] at h3
   simpa using h3
  ·simpa using h3
 have htl := hg.tl
 have e2 : (listsU F).getD m [] = listS (F.getD m (0, 0)) 128 := by
  unfold listsU
  rw [List.getD_eq_getElem?_getD, List.getD_eq_getElem?_getD, List.getElem?_map]
  cases F[m]? with
  | none =>
   show [] = listS (0, 0) 128
   unfold listS
   rw [List.filter_eq_nil_iff.2 (fun n _ => by rw [hasS_zero]; decide)]
   rfl
  | some s => rfl
 rw [e2, listS_mem]
 exact ⟨h1.1, by omega, h4⟩
theorem inL_of {l : List Int} {x : Int} (h : x ∈ l) : inL l x = true := by
 unfold inL
 rw [List.any_eq_true]
 exact ⟨x, h, by simp⟩
theorem listsU_short {F : List BS} {m : Nat} : ((listsU F).getD m []).length <= 128 := by
 unfold listsU
 rw [List.getD_eq_getElem?_getD, List.getElem?_map]
 cases F[m]? with
 | none => simp
 | some s =>
  show (listS s 128).length <= 128
  unfold listS
  rw [List.length_map]
  exact Nat.le_trans (List.length_filter_le _ _) (by simp)
set_option linter.unusedSimpArgs false in
theorem trees_bad (g : GV) (t : TV) (na : Option Addr) (nc : Nat) (N : List Bool) (fa : Option Addr) (fc : Nat) (L : List (List Int)) (w : World) (h : GAt 140737488355328 w g) (hpc : g.ps.length <= g.pc) (ht : TAt w t) (hsz : (plT 0 t).length <= 1048576) (hN : BRow w na N) (hL : LsRow w fa L) (hll : ∀ l ∈ L, l.length <= 140737488355328) (at_ : Int) (hE : checkG g (checkF g.ts g.ns) = (0, at_)) (hb : (runU g (ckT g (0, 0) false t) 0).1 ≠ 0) :
  Calls Try.prog 3 #[g.val, t.val, .slice na N.length nc, .slice fa L.length fc] w fun e w' => e = .returned (.bool true) /\ Below w.heap.size w w' := by
 have ok : OkC g := OkC.of (by rw [hE])
 have X0 : Hid (Below w.heap.size w ((w.alloc (gBox g)).alloc (tBox t)) /\ ((w.alloc (gBox g)).alloc (tBox t)).heap[w.heap.size]? = some (gBox g) /\ ((w.alloc (gBox g)).alloc (tBox t)).heap[w.heap.size + 1]? = some (tBox t)) := two_gt w g t
 have NC : Hid (∀ w', Below w.heap.size w w' -> Calls Try.prog 5 #[g.val] w' fun e w'' => ∃ nb, e = .returned (.tuple #[.slice (some ⟨nb, 0, none⟩) g.ns.length g.ns.length, .int .i64 0]) /\ BB w'' nb (nullU g.ps g.ns.length) /\ w'.heap.size <= nb /\ Below w'.heap.size w' w'') := fun w' hb => nullable_ok g w' (h.later hb) hpc at_ hE
 have FC : Hid (∀ w', Below w.heap.size w w' -> Calls Try.prog 6 #[g.val] w' fun e w'' => ∃ b F, LeastF g F /\ e = .returned (.tuple #[.slice (some ⟨b, 0, none⟩) g.ns.length g.ns.length, .int .i64 0]) /\ LLk w'' b (listsU F) g.ns.length /\ w'.heap.size <= b /\ Below w'.heap.size w' w'') := fun w' hb => first_ok g w' (h.later hb) hpc at_ hE
 have MC : Hid (∀ w', Below w.heap.size w w' -> Calls Try.prog 7 #[g.val] w' fun e w'' => e = .returned (.int .i64 0) /\ Below w'.heap.size w' w'') := fun w' hb => by
  have := refmay_G g w' (h.later hb)
  rwa [hE] at this
 have CC : Hid (∀ w', Below w.heap.size w w' -> Calls Try.prog 9 #[g.val, t.val] w' fun e w'' => e = .returned (.tuple #[.int .i64 (runU g (ckT g (0, 0) false t) 0).1, .int .i64 ((runU g (ckT g (0, 0) false t) 0).2 : Int)]) /\ Below w'.heap.size w' w'') := fun w' hb => check_S g t w' (h.later hb) (ht.later hb) (by omega)
 have HLE : Hid (∀ F, LeastF g F -> (listsU F).length = g.ns.length) := fun F hF => by
  obtain ⟨k, _, _, _, e⟩ := hF
  simp [listsU, e]
 have t1 : ((0 : Int) != 0) = false := by decide
 have e5 : ((runU g (ckT g (0, 0) false t) 0).1 != 0) = true := by simpa using hb
 clear hb
 clear h ht hsz hE ok hN hL hll
 generalize (runU g (ckT g (0, 0) false t) 0).1 = bad at *
 generalize ((runU g (ckT g (0, 0) false t) 0).2 : Int) = cnt at *
 go_enter Try.func3, Try.ntmps3
 go_wp2_with (first
  | (go_at_call 4; refine (works_S _).mono ?_; rintro e w1 ⟨rfl, b1⟩; have B1 : Hid (Below w.heap.size w w1 /\ w1.heap[w.heap.size]? = some (gBox g) /\ w1.heap[w.heap.size + 1]? = some (tBox t)) := ⟨X0.out.1.trans (b1.mono X0.out.1.size), tbox_on X0.out.2.1 b1, tbox_on X0.out.2.2 b1⟩; clear b1; obtain ⟨x0, x1, x2, x3, x4⟩ := gb_cells B1.out.2.1)
  | (go_at_call 5; refine (NC.out _ B1.out.1).mono ?_; rintro e w2 ⟨nb, rfl, n2, -, b2⟩; have B2 : Hid (Below w.heap.size w w2 /\ w2.heap[w.heap.size]? = some (gBox g) /\ w2.heap[w.heap.size + 1]? = some (tBox t) /\ BB w2 nb (nullU g.ps g.ns.length)) := ⟨B1.out.1.trans (b2.mono B1.out.1.size), tbox_on B1.out.2.1 b2, tbox_on B1.out.2.2 b2, n2⟩; clear b2 n2 x0 x1 x2 x3 x4; obtain ⟨x0, x1, x2, x3, x4⟩ := gb_cells B2.out.2.1)
  | (go_at_call 6; refine (FC.out _ B2.out.1).mono ?_; rintro e w3 ⟨mb, F, hF, rfl, l3, -, b3⟩; have HF : Hid (LeastF g F) := hF; have W3 : Hid (FTw w g t nb mb F w3) := ⟨B2.out.1.trans (b3.mono B2.out.1.size), tbox_on B2.out.2.1 b3, tbox_on B2.out.2.2.1 b3, B2.out.2.2.2.later b3, LLk.row (by rw [HLE.out F hF]; exact l3)⟩; clear b3 l3 hF x0 x1 x2 x3 x4; obtain ⟨x0, x1, x2, x3, x4⟩ := gb_cells W3.out.gb)
  | (go_at_call 7; refine (MC.out _ W3.out.bel).mono ?_; rintro e w4 ⟨rfl, b4⟩; have W4 : Hid (FTw w g t nb mb F w4) := W3.out.any b4; clear b4 x0 x1 x2 x3 x4; obtain ⟨x0, x1, x2, x3, x4⟩ := gb_cells W4.out.gb; obtain ⟨y0, y1, y2, y3⟩ := tb_cells W4.out.tb)
  | (go_at_call 9; refine (CC.out _ W4.out.bel).mono ?_; rintro e w5 ⟨rfl, b5⟩; have W5 : Hid (FTw w g t nb mb F w5) := W4.out.any b5; clear b5 x0 x1 x2 x3 x4 y0 y1 y2 y3; obtain ⟨x0, x1, x2, x3, x4⟩ := gb_cells W5.out.gb; obtain ⟨y0, y1, y2, y3⟩ := tb_cells W5.out.tb)
  )
 go_ret
 exact ⟨rfl, W5.out.bel⟩
set_option linter.unusedSimpArgs false in
theorem trees_leaf (g : GV) (t : TV) (na : Option Addr) (nc : Nat) (N : List Bool) (fa : Option Addr) (fc : Nat) (L : List (List Int)) (w : World) (h : GAt 140737488355328 w g) (hpc : g.ps.length <= g.pc) (ht : TAt w t) (hsz : (plT 0 t).length <= 1048576) (hN : BRow w na N) (hL : LsRow w fa L) (hll : ∀ l ∈ L, l.length <= 140737488355328) (at_ : Int) (hE : checkG g (checkF g.ts g.ns) = (0, at_)) (hb : (runU g (ckT g (0, 0) false t) 0).1 = 0) (hneg : t.prod < 0) :
  Calls Try.prog 3 #[g.val, t.val, .slice na N.length nc, .slice fa L.length fc] w fun e w' => e = .returned (.bool true) /\ Below w.heap.size w w' := by
 have ok : OkC g := OkC.of (by rw [hE])
 have X0 : Hid (Below w.heap.size w ((w.alloc (gBox g)).alloc (tBox t)) /\ ((w.alloc (gBox g)).alloc (tBox t)).heap[w.heap.size]? = some (gBox g) /\ ((w.alloc (gBox g)).alloc (tBox t)).heap[w.heap.size + 1]? = some (tBox t)) := two_gt w g t
 have NC : Hid (∀ w', Below w.heap.size w w' -> Calls Try.prog 5 #[g.val] w' fun e w'' => ∃ nb, e = .returned (.tuple #[.slice (some ⟨nb, 0, none⟩) g.ns.length g.ns.length, .int .i64 0]) /\ BB w'' nb (nullU g.ps g.ns.length) /\ w'.heap.size <= nb /\ Below w'.heap.size w' w'') := fun w' hb => nullable_ok g w' (h.later hb) hpc at_ hE
 have FC : Hid (∀ w', Below w.heap.size w w' -> Calls Try.prog 6 #[g.val] w' fun e w'' => ∃ b F, LeastF g F /\ e = .returned (.tuple #[.slice (some ⟨b, 0, none⟩) g.ns.length g.ns.length, .int .i64 0]) /\ LLk w'' b (listsU F) g.ns.length /\ w'.heap.size <= b /\ Below w'.heap.size w' w'') := fun w' hb => first_ok g w' (h.later hb) hpc at_ hE
 have MC : Hid (∀ w', Below w.heap.size w w' -> Calls Try.prog 7 #[g.val] w' fun e w'' => e = .returned (.int .i64 0) /\ Below w'.heap.size w' w'') := fun w' hb => by
  have := refmay_G g w' (h.later hb)
  rwa [hE] at this
 have CC : Hid (∀ w', Below w.heap.size w w' -> Calls Try.prog 9 #[g.val, t.val] w' fun e w'' => e = .returned (.tuple #[.int .i64 (runU g (ckT g (0, 0) false t) 0).1, .int .i64 ((runU g (ckT g (0, 0) false t) 0).2 : Int)]) /\ Below w'.heap.size w' w'') := fun w' hb => check_S g t w' (h.later hb) (ht.later hb) (by omega)
 have HLE : Hid (∀ F, LeastF g F -> (listsU F).length = g.ns.length) := fun F hF => by
  obtain ⟨k, _, _, _, e⟩ := hF
  simp [listsU, e]
 have t1 : ((0 : Int) != 0) = false := by decide
 clear h ht hsz hE ok hN hL hll
 generalize (runU g (ckT g (0, 0) false t) 0).1 = bad at *
 generalize ((runU g (ckT g (0, 0) false t) 0).2 : Int) = cnt at *
 subst hb
 go_enter Try.func3, Try.ntmps3
 go_wp2_with (first
  | (go_at_call 4; refine (works_S _).mono ?_; rintro e w1 ⟨rfl, b1⟩; have B1 : Hid (Below w.heap.size w w1 /\ w1.heap[w.heap.size]? = some (gBox g) /\ w1.heap[w.heap.size + 1]? = some (tBox t)) := ⟨X0.out.1.trans (b1.mono X0.out.1.size), tbox_on X0.out.2.1 b1, tbox_on X0.out.2.2 b1⟩; clear b1; obtain ⟨x0, x1, x2, x3, x4⟩ := gb_cells B1.out.2.1)
  | (go_at_call 5; refine (NC.out _ B1.out.1).mono ?_; rintro e w2 ⟨nb, rfl, n2, -, b2⟩; have B2 : Hid (Below w.heap.size w w2 /\ w2.heap[w.heap.size]? = some (gBox g) /\ w2.heap[w.heap.size + 1]? = some (tBox t) /\ BB w2 nb (nullU g.ps g.ns.length)) := ⟨B1.out.1.trans (b2.mono B1.out.1.size), tbox_on B1.out.2.1 b2, tbox_on B1.out.2.2 b2, n2⟩; clear b2 n2 x0 x1 x2 x3 x4; obtain ⟨x0, x1, x2, x3, x4⟩ := gb_cells B2.out.2.1)
  | (go_at_call 6; refine (FC.out _ B2.out.1).mono ?_; rintro e w3 ⟨mb, F, hF, rfl, l3, -, b3⟩; have HF : Hid (LeastF g F) := hF; have W3 : Hid (FTw w g t nb mb F w3) := ⟨B2.out.1.trans (b3.mono B2.out.1.size), tbox_on B2.out.2.1 b3, tbox_on B2.out.2.2.1 b3, B2.out.2.2.2.later b3, LLk.row (by rw [HLE.out F hF]; exact l3)⟩; clear b3 l3 hF x0 x1 x2 x3 x4; obtain ⟨x0, x1, x2, x3, x4⟩ := gb_cells W3.out.gb)
  | (go_at_call 7; refine (MC.out _ W3.out.bel).mono ?_; rintro e w4 ⟨rfl, b4⟩; have W4 : Hid (FTw w g t nb mb F w4) := W3.out.any b4; clear b4 x0 x1 x2 x3 x4; obtain ⟨x0, x1, x2, x3, x4⟩ := gb_cells W4.out.gb; obtain ⟨y0, y1, y2, y3⟩ := tb_cells W4.out.tb)
  | (go_at_call 9; refine (CC.out _ W4.out.bel).mono ?_; rintro e w5 ⟨rfl, b5⟩; have W5 : Hid (FTw w g t nb mb F w5) := W4.out.any b5; clear b5 x0 x1 x2 x3 x4 y0 y1 y2 y3; obtain ⟨x0, x1, x2, x3, x4⟩ := gb_cells W5.out.gb; obtain ⟨y0, y1, y2, y3⟩ := tb_cells W5.out.tb)
  )
 go_ret
 exact ⟨rfl, W5.out.bel⟩
set_option linter.unusedSimpArgs false in
theorem trees_none0 (g : GV) (t : TV) (na : Option Addr) (nc : Nat) (N : List Bool) (fa : Option Addr) (fc : Nat) (L : List (List Int)) (w : World) (h : GAt 140737488355328 w g) (hpc : g.ps.length <= g.pc) (ht : TAt w t) (hsz : (plT 0 t).length <= 1048576) (hN : BRow w na N) (hL : LsRow w fa L) (hll : ∀ l ∈ L, l.length <= 140737488355328) (at_ : Int) (hE : checkG g (checkF g.ts g.ns) = (0, at_)) (hb : (runU g (ckT g (0, 0) false t) 0).1 = 0) (jn m : Nat) (hjn : t.prod = (jn : Int)) (hjl : jn < g.ps.length) (hm : (g.ps.getD jn .none).left = (m : Int)) (hml : m < g.ns.length) (hlv : leafs (plT 0 t) = []) (hi0 : (chkNU g N 0).1 = 0) :
  Calls Try.prog 3 #[g.val, t.val, .slice na N.length nc, .slice fa L.length fc] w fun e w' => e = .returned (.bool true) /\ Below w.heap.size w w' := by
 have ok : OkC g := OkC.of (by rw [hE])
 have X0 : Hid (Below w.heap.size w ((w.alloc (gBox g)).alloc (tBox t)) /\ ((w.alloc (gBox g)).alloc (tBox t)).heap[w.heap.size]? = some (gBox g) /\ ((w.alloc (gBox g)).alloc (tBox t)).heap[w.heap.size + 1]? = some (tBox t)) := two_gt w g t
 have NC : Hid (∀ w', Below w.heap.size w w' -> Calls Try.prog 5 #[g.val] w' fun e w'' => ∃ nb, e = .returned (.tuple #[.slice (some ⟨nb, 0, none⟩) g.ns.length g.ns.length, .int .i64 0]) /\ BB w'' nb (nullU g.ps g.ns.length) /\ w'.heap.size <= nb /\ Below w'.heap.size w' w'') := fun w' hb => nullable_ok g w' (h.later hb) hpc at_ hE
 have FC : Hid (∀ w', Below w.heap.size w w' -> Calls Try.prog 6 #[g.val] w' fun e w'' => ∃ b F, LeastF g F /\ e = .returned (.tuple #[.slice (some ⟨b, 0, none⟩) g.ns.length g.ns.length, .int .i64 0]) /\ LLk w'' b (listsU F) g.ns.length /\ w'.heap.size <= b /\ Below w'.heap.size w' w'') := fun w' hb => first_ok g w' (h.later hb) hpc at_ hE
 have MC : Hid (∀ w', Below w.heap.size w w' -> Calls Try.prog 7 #[g.val] w' fun e w'' => e = .returned (.int .i64 0) /\ Below w'.heap.size w' w'') := fun w' hb => by
  have := refmay_G g w' (h.later hb)
  rwa [hE] at this
 have EJ : t.val = .agg #[.int .i64 (jn : Int), .int .i64 t.kind, .string t.tx, .slice t.ka t.kids.length t.kc] := by
  show Value.agg #[.int .i64 t.prod, .int .i64 t.kind, .string t.tx, .slice t.ka t.kids.length t.kc] = _
  rw [hjn]
 have CC : Hid (∀ w', Below w.heap.size w w' -> Calls Try.prog 9 #[g.val, .agg #[.int .i64 (jn : Int), .int .i64 t.kind, .string t.tx, .slice t.ka t.kids.length t.kc]] w' fun e w'' => e = .returned (.tuple #[.int .i64 (runU g (ckT g (0, 0) false t) 0).1, .int .i64 ((runU g (ckT g (0, 0) false t) 0).2 : Int)]) /\ Below w'.heap.size w' w'') := fun w' hb => by rw [<- EJ]; exact check_S g t w' (h.later hb) (ht.later hb) (by omega)
 have YC : Hid (∀ w', Below w.heap.size w w' -> Calls Try.prog 10 #[.agg #[.int .i64 (jn : Int), .int .i64 t.kind, .string t.tx, .slice t.ka t.kids.length t.kc]] w' fun e w'' => ∃ a c, e = .returned (.slice a (leafs (plT 0 t)).length c) /\ TKo w'' (.slice a (leafs (plT 0 t)).length c) (leafs (plT 0 t)) /\ Below w'.heap.size w' w'') := fun w' hb => by rw [<- EJ]; exact yield_S t w' (ht.later hb) (by omega)
 have EC : Hid (∀ w', Below w.heap.size w w' -> Calls Try.prog 14 #[.agg #[.int .i64 (jn : Int), .int .i64 t.kind, .string t.tx, .slice t.ka t.kids.length t.kc]] w' fun e w'' => e = .returned (.tuple #[.int .i64 ((plT 0 t).length : Int), .int .i64 ((leafs (plT 0 t)).length : Int), .int .i64 (hgT t : Int)]) /\ Below w'.heap.size w' w'') := fun w' hb => by rw [<- EJ]; exact measure_S t w' (ht.later hb) hsz
 have HC : Hid (∀ w', Below w.heap.size w w' -> Calls Try.prog 13 #[g.val] w' fun e w'' => ∃ kb, e = .returned (.tuple #[.slice (some ⟨kb, 0, none⟩) g.ns.length g.ns.length, .int .i64 0]) /\ KB w'' kb (htU g.ps g.ns.length g.ns.length) /\ w'.heap.size <= kb /\ Below w'.heap.size w' w'') := fun w' hb => heights_ok g w' (h.later hb) hpc at_ hE
 have NK : Hid (∀ w', Below w.heap.size w w' -> Calls Try.prog 11 #[g.val, .slice na N.length nc] w' fun e w'' => e = .returned (.tuple #[.int .i64 (chkNU g N 0).1, .int .i64 (chkNU g N 0).2]) /\ Below w'.heap.size w' w'') := fun w' hb => chkNull_S g na nc N w' (h.later hb) hpc 0 at_ hE (hN.later hb)
 have FK : Hid (∀ w', Below w.heap.size w w' -> Calls Try.prog 12 #[g.val, .slice na N.length nc, .slice fa L.length fc] w' fun e w'' => e = .returned (.tuple #[.int .i64 (chkFU g N L 0).1, .int .i64 (chkFU g N L 0).2]) /\ Below w'.heap.size w' w'') := fun w' hb => chkFirst_S g na nc N fa fc L w' (h.later hb) hpc 0 at_ hE (hN.later hb) (hL.later hb) hll
 have HGP : Hid (GP g) := (ok.fg h).gp
 have HRT : Hid (RT g t) := RT.of t _ _ (runU_zero _ _ hb)
 have HRO : Hid (rootU g t = (2, (m : Int))) := by
  show _ = _
  rw [root_node (by omega) (by omega), hjn, Int.toNat_natCast, hm]
 have HGA : Hid (∀ w', Below w.heap.size w w' -> GAt 140737488355328 w' g) := fun w' hb => h.later hb
 have HN : Hid (BRow w na N) := hN
 have HL : Hid (LsRow w fa L) := hL
 have HLL : Hid (∀ l ∈ L, l.length <= 140737488355328) := hll
 obtain ⟨pb, po, hpa, -⟩ := ps_cells h hjl
 have HPA : Hid (g.pa = some ⟨pb, po, none⟩) := hpa
 have HPC : Hid (∀ w', Below w.heap.size w w' -> w'.cell? ⟨pb, po + jn * 3, none⟩ = some (.int .i64 (m : Int))) := fun w' hb => by
  obtain ⟨pb', po', hpa', -, c0, -⟩ := ps_cells (h.later hb) hjl
  rw [hpa] at hpa'
  simp only [Option.some.injEq, Addr.mk.injEq, and_true] at hpa'
  obtain ⟨rfl, rfl⟩ := hpa'
  rw [hm] at c0
  exact c0
 have HJ : Hid (t.prod = (jn : Int)) := hjn
 have hnl := ok.nl.2
 have hpl := h.pl
 have jlt : (jn : Int) < (g.ps.length : Int) := by omega
 have j0 : ¬ (jn : Int) < 0 := by omega
 have mlt : (m : Int) < (g.ns.length : Int) := by omega
 have HLE : Hid (∀ F, LeastF g F -> (listsU F).length = g.ns.length) := fun F hF => by
  obtain ⟨k, _, _, _, e⟩ := hF
  simp [listsU, e]
 have t1 : ((0 : Int) != 0) = false := by decide
 obtain ⟨hT1, hT2, hT3⟩ := tree_none HGP.out HRT.out HRO.out hlv
 obtain ⟨n, hn⟩ : ∃ n, (leafs (plT 0 t)).length = n := ⟨_, rfl⟩
 rw [hn] at YC EC
 have e7 : ((n : Int) == 0) = true := by rw [<- hn, hlv]; rfl
 clear hn
 obtain ⟨hNl, hN0⟩ := chkNU_zero hi0
 obtain ⟨nab, nao, hna, -, hnc⟩ := HN.out (by intro q; rw [q] at hNl; simp at hNl; omega)
 have HNK : Hid (∀ w', Below w.heap.size w w' -> w'.cell? ⟨nab, nao + m, none⟩ = some (.bool (N.getD m false))) := fun w' hb => by
  obtain ⟨b', o', e', -, c'⟩ := (HN.out.later hb) (by intro q; rw [q] at hNl; simp at hNl; omega)
  rw [hna] at e'
  simp only [Option.some.injEq, Addr.mk.injEq, and_true] at e'
  obtain ⟨rfl, rfl⟩ := e'
  exact c' m (by omega)
 have mN : (m : Int) < (N.length : Int) := by omega
 rw [hna] at NK FK ⊢
 rw [hi0] at NK
 have HNV : Hid (N.getD m false = true) := null_least hN0 m hT1
 have HNM : Hid ((nullU g.ps g.ns.length).getD m false = true) := hT1
 obtain ⟨H, hH⟩ : ∃ H, (htU g.ps g.ns.length g.ns.length).getD m 0 = H := ⟨_, rfl⟩
 rw [hH] at hT2 hT3
 have HHM : Hid ((htU g.ps g.ns.length g.ns.length).getD m 0 = H) := hH
 obtain ⟨hgt, hhg⟩ : ∃ q : Int, (hgT t : Int) = q := ⟨_, rfl⟩
 rw [hhg] at hT3 EC
 have d1 : decide (1 <= H) = true := decide_eq_true hT2
 have d2 : decide (H <= hgt) = true := decide_eq_true hT3
 generalize ((plT 0 t).length : Int) = pn at *
 clear h ht hsz hE ok hN hL hll hpa hjn hm EJ
 generalize ((runU g (ckT g (0, 0) false t) 0).2 : Int) = cnt at *
 rw [hb] at CC
 clear hb
 clear hlv hT1 hH hhg hi0 hNl hN0 hna hnc
 generalize (chkFU g N L 0).1 = cj at *
 go_enter Try.func3, Try.ntmps3
 go_wp2_with (first
  | (go_at_call 4; refine (works_S _).mono ?_; rintro e w1 ⟨rfl, b1⟩; have B1 : Hid (Below w.heap.size w w1 /\ w1.heap[w.heap.size]? = some (gBox g) /\ w1.heap[w.heap.size + 1]? = some (tBox t)) := ⟨X0.out.1.trans (b1.mono X0.out.1.size), tbox_on X0.out.2.1 b1, tbox_on X0.out.2.2 b1⟩; clear b1; obtain ⟨x0, x1, x2, x3, x4⟩ := gb_cells B1.out.2.1)
  | (go_at_call 5; refine (NC.out _ B1.out.1).mono ?_; rintro e w2 ⟨nb, rfl, n2, -, b2⟩; have B2 : Hid (Below w.heap.size w w2 /\ w2.heap[w.heap.size]? = some (gBox g) /\ w2.heap[w.heap.size + 1]? = some (tBox t) /\ BB w2 nb (nullU g.ps g.ns.length)) := ⟨B1.out.1.trans (b2.mono B1.out.1.size), tbox_on B1.out.2.1 b2, tbox_on B1.out.2.2 b2, n2⟩; clear b2 n2 x0 x1 x2 x3 x4; obtain ⟨x0, x1, x2, x3, x4⟩ := gb_cells B2.out.2.1)
  | (go_at_call 6; refine (FC.out _ B2.out.1).mono ?_; rintro e w3 ⟨mb, F, hF, rfl, l3, -, b3⟩; have HF : Hid (LeastF g F) := hF; have W3 : Hid (FTw w g t nb mb F w3) := ⟨B2.out.1.trans (b3.mono B2.out.1.size), tbox_on B2.out.2.1 b3, tbox_on B2.out.2.2.1 b3, B2.out.2.2.2.later b3, LLk.row (by rw [HLE.out F hF]; exact l3)⟩; clear b3 l3 hF x0 x1 x2 x3 x4; obtain ⟨x0, x1, x2, x3, x4⟩ := gb_cells W3.out.gb)
  | (go_at_call 7; refine (MC.out _ W3.out.bel).mono ?_; rintro e w4 ⟨rfl, b4⟩; have W4 : Hid (FTw w g t nb mb F w4) := W3.out.any b4; clear b4 x0 x1 x2 x3 x4; obtain ⟨x0, x1, x2, x3, x4⟩ := gb_cells W4.out.gb; obtain ⟨y0, y1, y2, y3⟩ := tb_cells W4.out.tb; rw [HJ.out] at y0)
  | (go_at_call 9; refine (CC.out _ W4.out.bel).mono ?_; rintro e w5 ⟨rfl, b5⟩; have W5 : Hid (FTw w g t nb mb F w5) := W4.out.any b5; clear b5 x0 x1 x2 x3 x4 y0 y1 y2 y3; obtain ⟨x0, x1, x2, x3, x4⟩ := gb_cells W5.out.gb; obtain ⟨y0, y1, y2, y3⟩ := tb_cells W5.out.tb; rw [HJ.out] at y0; rw [HPA.out] at x3; have c0 := HPC.out _ W5.out.bel)
  | (go_at_call 10; refine (YC.out _ W5.out.bel).mono ?_; rintro e w6 ⟨ya, yc, rfl, hy6, b6⟩; have W6 : Hid (FTw w g t nb mb F w6) := W5.out.any b6; have Y6 : Hid (TKo w6 (.slice ya n yc) (leafs (plT 0 t))) := hy6; clear b6 hy6 x0 x1 x2 x3 x4 y0 y1 y2 y3 c0; obtain ⟨x0, x1, x2, x3, x4⟩ := gb_cells W6.out.gb)
  | (go_at_call 11; refine (NK.out _ W6.out.bel).mono ?_; rintro e w7 ⟨rfl, b7⟩; have W7 : Hid (FTw w g t nb mb F w7) := W6.out.any b7; have Y7 : Hid (TKo w7 (.slice ya n yc) (leafs (plT 0 t))) := Y6.out.later b7; clear b7 x0 x1 x2 x3 x4; obtain ⟨x0, x1, x2, x3, x4⟩ := gb_cells W7.out.gb)
  | (go_at_call 12; refine (FK.out _ W7.out.bel).mono ?_; rintro e w8 ⟨rfl, b8⟩; have W8 : Hid (FTw w g t nb mb F w8) := W7.out.any b8; have Y8 : Hid (TKo w8 (.slice ya n yc) (leafs (plT 0 t))) := Y7.out.later b8; clear b8 x0 x1 x2 x3 x4; obtain ⟨x0, x1, x2, x3, x4⟩ := gb_cells W8.out.gb)
  | (go_at_call 13; refine (HC.out _ W8.out.bel).mono ?_; rintro e w9 ⟨kb, rfl, hk9, -, b9⟩; have W9 : Hid (FTw w g t nb mb F w9) := W8.out.any b9; have K9 : Hid (KB w9 kb (htU g.ps g.ns.length g.ns.length)) := hk9; clear b9 hk9 x0 x1 x2 x3 x4; obtain ⟨y0, y1, y2, y3⟩ := tb_cells W9.out.tb; rw [HJ.out] at y0)
  | (go_at_call 14; refine (EC.out _ W9.out.bel).mono ?_; rintro e w10 ⟨rfl, b10⟩; have W10 : Hid (FTw w g t nb mb F w10) := W9.out.any b10; have q2 := (K9.out.later b10).cell (i := m) (by rw [htU_len]; omega); rw [HHM.out] at q2; have q1 := W10.out.nl.cell (i := m) (by simp [nullU, htU_len]; omega); rw [HNM.out] at q1; clear b10 y0 y1 y2 y3; have q3 := HNK.out _ W10.out.bel; rw [HNV.out] at q3))
 go_ret
 exact ⟨rfl, W10.out.bel⟩
set_option linter.unusedSimpArgs false in
theorem trees_none1 (g : GV) (t : TV) (na : Option Addr) (nc : Nat) (N : List Bool) (fa : Option Addr) (fc : Nat) (L : List (List Int)) (w : World) (h : GAt 140737488355328 w g) (hpc : g.ps.length <= g.pc) (ht : TAt w t) (hsz : (plT 0 t).length <= 1048576) (hN : BRow w na N) (hL : LsRow w fa L) (hll : ∀ l ∈ L, l.length <= 140737488355328) (at_ : Int) (hE : checkG g (checkF g.ts g.ns) = (0, at_)) (hb : (runU g (ckT g (0, 0) false t) 0).1 = 0) (jn m : Nat) (hjn : t.prod = (jn : Int)) (hjl : jn < g.ps.length) (hm : (g.ps.getD jn .none).left = (m : Int)) (hml : m < g.ns.length) (hlv : leafs (plT 0 t) = []) (hi0 : (chkNU g N 0).1 ≠ 0) :
  Calls Try.prog 3 #[g.val, t.val, .slice na N.length nc, .slice fa L.length fc] w fun e w' => e = .returned (.bool true) /\ Below w.heap.size w w' := by
 have ok : OkC g := OkC.of (by rw [hE])
 have X0 : Hid (Below w.heap.size w ((w.alloc (gBox g)).alloc (tBox t)) /\ ((w.alloc (gBox g)).alloc (tBox t)).heap[w.heap.size]? = some (gBox g) /\ ((w.alloc (gBox g)).alloc (tBox t)).heap[w.heap.size + 1]? = some (tBox t)) := two_gt w g t
 have NC : Hid (∀ w', Below w.heap.size w w' -> Calls Try.prog 5 #[g.val] w' fun e w'' => ∃ nb, e = .returned (.tuple #[.slice (some ⟨nb, 0, none⟩) g.ns.length g.ns.length, .int .i64 0]) /\ BB w'' nb (nullU g.ps g.ns.length) /\ w'.heap.size <= nb /\ Below w'.heap.size w' w'') := fun w' hb => nullable_ok g w' (h.later hb) hpc at_ hE
 have FC : Hid (∀ w', Below w.heap.size w w' -> Calls Try.prog 6 #[g.val] w' fun e w'' => ∃ b F, LeastF g F /\ e = .returned (.tuple #[.slice (some ⟨b, 0, none⟩) g.ns.length g.ns.length, .int .i64 0]) /\ LLk w'' b (listsU F) g.ns.length /\ w'.heap.size <= b /\ Below w'.heap.size w' w'') := fun w' hb => first_ok g w' (h.later hb) hpc at_ hE
 have MC : Hid (∀ w', Below w.heap.size w w' -> Calls Try.prog 7 #[g.val] w' fun e w'' => e = .returned (.int .i64 0) /\ Below w'.heap.size w' w'') := fun w' hb => by
  have := refmay_G g w' (h.later hb)
  rwa [hE] at this
 have EJ : t.val = .agg #[.int .i64 (jn : Int), .int .i64 t.kind, .string t.tx, .slice t.ka t.kids.length t.kc] := by
  show Value.agg #[.int .i64 t.prod, .int .i64 t.kind, .string t.tx, .slice t.ka t.kids.length t.kc] = _
  rw [hjn]
 have CC : Hid (∀ w', Below w.heap.size w w' -> Calls Try.prog 9 #[g.val, .agg #[.int .i64 (jn : Int), .int .i64 t.kind, .string t.tx, .slice t.ka t.kids.length t.kc]] w' fun e w'' => e = .returned (.tuple #[.int .i64 (runU g (ckT g (0, 0) false t) 0).1, .int .i64 ((runU g (ckT g (0, 0) false t) 0).2 : Int)]) /\ Below w'.heap.size w' w'') := fun w' hb => by rw [<- EJ]; exact check_S g t w' (h.later hb) (ht.later hb) (by omega)
 have YC : Hid (∀ w', Below w.heap.size w w' -> Calls Try.prog 10 #[.agg #[.int .i64 (jn : Int), .int .i64 t.kind, .string t.tx, .slice t.ka t.kids.length t.kc]] w' fun e w'' => ∃ a c, e = .returned (.slice a (leafs (plT 0 t)).length c) /\ TKo w'' (.slice a (leafs (plT 0 t)).length c) (leafs (plT 0 t)) /\ Below w'.heap.size w' w'') := fun w' hb => by rw [<- EJ]; exact yield_S t w' (ht.later hb) (by omega)
 have EC : Hid (∀ w', Below w.heap.size w w' -> Calls Try.prog 14 #[.agg #[.int .i64 (jn : Int), .int .i64 t.kind, .string t.tx, .slice t.ka t.kids.length t.kc]] w' fun e w'' => e = .returned (.tuple #[.int .i64 ((plT 0 t).length : Int), .int .i64 ((leafs (plT 0 t)).length : Int), .int .i64 (hgT t : Int)]) /\ Below w'.heap.size w' w'') := fun w' hb => by rw [<- EJ]; exact measure_S t w' (ht.later hb) hsz
 have HC : Hid (∀ w', Below w.heap.size w w' -> Calls Try.prog 13 #[g.val] w' fun e w'' => ∃ kb, e = .returned (.tuple #[.slice (some ⟨kb, 0, none⟩) g.ns.length g.ns.length, .int .i64 0]) /\ KB w'' kb (htU g.ps g.ns.length g.ns.length) /\ w'.heap.size <= kb /\ Below w'.heap.size w' w'') := fun w' hb => heights_ok g w' (h.later hb) hpc at_ hE
 have NK : Hid (∀ w', Below w.heap.size w w' -> Calls Try.prog 11 #[g.val, .slice na N.length nc] w' fun e w'' => e = .returned (.tuple #[.int .i64 (chkNU g N 0).1, .int .i64 (chkNU g N 0).2]) /\ Below w'.heap.size w' w'') := fun w' hb => chkNull_S g na nc N w' (h.later hb) hpc 0 at_ hE (hN.later hb)
 have FK : Hid (∀ w', Below w.heap.size w w' -> Calls Try.prog 12 #[g.val, .slice na N.length nc, .slice fa L.length fc] w' fun e w'' => e = .returned (.tuple #[.int .i64 (chkFU g N L 0).1, .int .i64 (chkFU g N L 0).2]) /\ Below w'.heap.size w' w'') := fun w' hb => chkFirst_S g na nc N fa fc L w' (h.later hb) hpc 0 at_ hE (hN.later hb) (hL.later hb) hll
 have HGP : Hid (GP g) := (ok.fg h).gp
 have HRT : Hid (RT g t) := RT.of t _ _ (runU_zero _ _ hb)
 have HRO : Hid (rootU g t = (2, (m : Int))) := by
  show _ = _
  rw [root_node (by omega) (by omega), hjn, Int.toNat_natCast, hm]
 have HGA : Hid (∀ w', Below w.heap.size w w' -> GAt 140737488355328 w' g) := fun w' hb => h.later hb
 have HN : Hid (BRow w na N) := hN
 have HL : Hid (LsRow w fa L) := hL
 have HLL : Hid (∀ l ∈ L, l.length <= 140737488355328) := hll
 obtain ⟨pb, po, hpa, -⟩ := ps_cells h hjl
 have HPA : Hid (g.pa = some ⟨pb, po, none⟩) := hpa
 have HPC : Hid (∀ w', Below w.heap.size w w' -> w'.cell? ⟨pb, po + jn * 3, none⟩ = some (.int .i64 (m : Int))) := fun w' hb => by
  obtain ⟨pb', po', hpa', -, c0, -⟩ := ps_cells (h.later hb) hjl
  rw [hpa] at hpa'
  simp only [Option.some.injEq, Addr.mk.injEq, and_true] at hpa'
  obtain ⟨rfl, rfl⟩ := hpa'
  rw [hm] at c0
  exact c0
 have HJ : Hid (t.prod = (jn : Int)) := hjn
 have hnl := ok.nl.2
 have hpl := h.pl
 have jlt : (jn : Int) < (g.ps.length : Int) := by omega
 have j0 : ¬ (jn : Int) < 0 := by omega
 have mlt : (m : Int) < (g.ns.length : Int) := by omega
 have HLE : Hid (∀ F, LeastF g F -> (listsU F).length = g.ns.length) := fun F hF => by
  obtain ⟨k, _, _, _, e⟩ := hF
  simp [listsU, e]
 have t1 : ((0 : Int) != 0) = false := by decide
 obtain ⟨hT1, hT2, hT3⟩ := tree_none HGP.out HRT.out HRO.out hlv
 obtain ⟨n, hn⟩ : ∃ n, (leafs (plT 0 t)).length = n := ⟨_, rfl⟩
 rw [hn] at YC EC
 have e7 : ((n : Int) == 0) = true := by rw [<- hn, hlv]; rfl
 clear hn
 have e8 : ((chkNU g N 0).1 != 0) = true := by simpa using hi0
 generalize (chkNU g N 0).1 = ci at *
 have HNM : Hid ((nullU g.ps g.ns.length).getD m false = true) := hT1
 obtain ⟨H, hH⟩ : ∃ H, (htU g.ps g.ns.length g.ns.length).getD m 0 = H := ⟨_, rfl⟩
 rw [hH] at hT2 hT3
 have HHM : Hid ((htU g.ps g.ns.length g.ns.length).getD m 0 = H) := hH
 obtain ⟨hgt, hhg⟩ : ∃ q : Int, (hgT t : Int) = q := ⟨_, rfl⟩
 rw [hhg] at hT3 EC
 have d1 : decide (1 <= H) = true := decide_eq_true hT2
 have d2 : decide (H <= hgt) = true := decide_eq_true hT3
 generalize ((plT 0 t).length : Int) = pn at *
 clear h ht hsz hE ok hN hL hll hpa hjn hm EJ
 generalize ((runU g (ckT g (0, 0) false t) 0).2 : Int) = cnt at *
 rw [hb] at CC
 clear hb
 clear hlv hT1 hH hhg hi0 
 generalize (chkFU g N L 0).1 = cj at *
 go_enter Try.func3, Try.ntmps3
 go_wp2_with (first
  | (go_at_call 4; refine (works_S _).mono ?_; rintro e w1 ⟨rfl, b1⟩; have B1 : Hid (Below w.heap.size w w1 /\ w1.heap[w.heap.size]? = some (gBox g) /\ w1.heap[w.heap.size + 1]? = some (tBox t)) := ⟨X0.out.1.trans (b1.mono X0.out.1.size), tbox_on X0.out.2.1 b1, tbox_on X0.out.2.2 b1⟩; clear b1; obtain ⟨x0, x1, x2, x3, x4⟩ := gb_cells B1.out.2.1)
  | (go_at_call 5; refine (NC.out _ B1.out.1).mono ?_; rintro e w2 ⟨nb, rfl, n2, -, b2⟩; have B2 : Hid (Below w.heap.size w w2 /\ w2.heap[w.heap.size]? = some (gBox g) /\ w2.heap[w.heap.size + 1]? = some (tBox t) /\ BB w2 nb (nullU g.ps g.ns.length)) := ⟨B1.out.1.trans (b2.mono B1.out.1.size), tbox_on B1.out.2.1 b2, tbox_on B1.out.2.2 b2, n2⟩; clear b2 n2 x0 x1 x2 x3 x4; obtain ⟨x0, x1, x2, x3, x4⟩ := gb_cells B2.out.2.1)
  | (go_at_call 6; refine (FC.out _ B2.out.1).mono ?_; rintro e w3 ⟨mb, F, hF, rfl, l3, -, b3⟩; have HF : Hid (LeastF g F) := hF; have W3 : Hid (FTw w g t nb mb F w3) := ⟨B2.out.1.trans (b3.mono B2.out.1.size), tbox_on B2.out.2.1 b3, tbox_on B2.out.2.2.1 b3, B2.out.2.2.2.later b3, LLk.row (by rw [HLE.out F hF]; exact l3)⟩; clear b3 l3 hF x0 x1 x2 x3 x4; obtain ⟨x0, x1, x2, x3, x4⟩ := gb_cells W3.out.gb)
  | (go_at_call 7; refine (MC.out _ W3.out.bel).mono ?_; rintro e w4 ⟨rfl, b4⟩; have W4 : Hid (FTw w g t nb mb F w4) := W3.out.any b4; clear b4 x0 x1 x2 x3 x4; obtain ⟨x0, x1, x2, x3, x4⟩ := gb_cells W4.out.gb; obtain ⟨y0, y1, y2, y3⟩ := tb_cells W4.out.tb; rw [HJ.out] at y0)
  | (go_at_call 9; refine (CC.out _ W4.out.bel).mono ?_; rintro e w5 ⟨rfl, b5⟩; have W5 : Hid (FTw w g t nb mb F w5) := W4.out.any b5; clear b5 x0 x1 x2 x3 x4 y0 y1 y2 y3; obtain ⟨x0, x1, x2, x3, x4⟩ := gb_cells W5.out.gb; obtain ⟨y0, y1, y2, y3⟩ := tb_cells W5.out.tb; rw [HJ.out] at y0; rw [HPA.out] at x3; have c0 := HPC.out _ W5.out.bel)
  | (go_at_call 10; refine (YC.out _ W5.out.bel).mono ?_; rintro e w6 ⟨ya, yc, rfl, hy6, b6⟩; have W6 : Hid (FTw w g t nb mb F w6) := W5.out.any b6; have Y6 : Hid (TKo w6 (.slice ya n yc) (leafs (plT 0 t))) := hy6; clear b6 hy6 x0 x1 x2 x3 x4 y0 y1 y2 y3 c0; obtain ⟨x0, x1, x2, x3, x4⟩ := gb_cells W6.out.gb)
  | (go_at_call 11; refine (NK.out _ W6.out.bel).mono ?_; rintro e w7 ⟨rfl, b7⟩; have W7 : Hid (FTw w g t nb mb F w7) := W6.out.any b7; have Y7 : Hid (TKo w7 (.slice ya n yc) (leafs (plT 0 t))) := Y6.out.later b7; clear b7 x0 x1 x2 x3 x4; obtain ⟨x0, x1, x2, x3, x4⟩ := gb_cells W7.out.gb)
  | (go_at_call 12; refine (FK.out _ W7.out.bel).mono ?_; rintro e w8 ⟨rfl, b8⟩; have W8 : Hid (FTw w g t nb mb F w8) := W7.out.any b8; have Y8 : Hid (TKo w8 (.slice ya n yc) (leafs (plT 0 t))) := Y7.out.later b8; clear b8 x0 x1 x2 x3 x4; obtain ⟨x0, x1, x2, x3, x4⟩ := gb_cells W8.out.gb)
  | (go_at_call 13; refine (HC.out _ W8.out.bel).mono ?_; rintro e w9 ⟨kb, rfl, hk9, -, b9⟩; have W9 : Hid (FTw w g t nb mb F w9) := W8.out.any b9; have K9 : Hid (KB w9 kb (htU g.ps g.ns.length g.ns.length)) := hk9; clear b9 hk9 x0 x1 x2 x3 x4; obtain ⟨y0, y1, y2, y3⟩ := tb_cells W9.out.tb; rw [HJ.out] at y0)
  | (go_at_call 14; refine (EC.out _ W9.out.bel).mono ?_; rintro e w10 ⟨rfl, b10⟩; have W10 : Hid (FTw w g t nb mb F w10) := W9.out.any b10; have q2 := (K9.out.later b10).cell (i := m) (by rw [htU_len]; omega); rw [HHM.out] at q2; have q1 := W10.out.nl.cell (i := m) (by simp [nullU, htU_len]; omega); rw [HNM.out] at q1; clear b10 y0 y1 y2 y3))
 go_ret
 exact ⟨rfl, W10.out.bel⟩
set_option linter.unusedSimpArgs false in
theorem trees_some0 (g : GV) (t : TV) (na : Option Addr) (nc : Nat) (N : List Bool) (fa : Option Addr) (fc : Nat) (L : List (List Int)) (w : World) (h : GAt 140737488355328 w g) (hpc : g.ps.length <= g.pc) (ht : TAt w t) (hsz : (plT 0 t).length <= 1048576) (hN : BRow w na N) (hL : LsRow w fa L) (hll : ∀ l ∈ L, l.length <= 140737488355328) (at_ : Int) (hE : checkG g (checkF g.ts g.ns) = (0, at_)) (hb : (runU g (ckT g (0, 0) false t) 0).1 = 0) (jn m : Nat) (hjn : t.prod = (jn : Int)) (hjl : jn < g.ps.length) (hm : (g.ps.getD jn .none).left = (m : Int)) (hml : m < g.ns.length) (x : SP) (r : List SP) (hlv : leafs (plT 0 t) = x :: r) (hi0 : (chkNU g N 0).1 ≠ 0) :
  Calls Try.prog 3 #[g.val, t.val, .slice na N.length nc, .slice fa L.length fc] w fun e w' => e = .returned (.bool true) /\ Below w.heap.size w w' := by
 have ok : OkC g := OkC.of (by rw [hE])
 have X0 : Hid (Below w.heap.size w ((w.alloc (gBox g)).alloc (tBox t)) /\ ((w.alloc (gBox g)).alloc (tBox t)).heap[w.heap.size]? = some (gBox g) /\ ((w.alloc (gBox g)).alloc (tBox t)).heap[w.heap.size + 1]? = some (tBox t)) := two_gt w g t
 have NC : Hid (∀ w', Below w.heap.size w w' -> Calls Try.prog 5 #[g.val] w' fun e w'' => ∃ nb, e = .returned (.tuple #[.slice (some ⟨nb, 0, none⟩) g.ns.length g.ns.length, .int .i64 0]) /\ BB w'' nb (nullU g.ps g.ns.length) /\ w'.heap.size <= nb /\ Below w'.heap.size w' w'') := fun w' hb => nullable_ok g w' (h.later hb) hpc at_ hE
 have FC : Hid (∀ w', Below w.heap.size w w' -> Calls Try.prog 6 #[g.val] w' fun e w'' => ∃ b F, LeastF g F /\ e = .returned (.tuple #[.slice (some ⟨b, 0, none⟩) g.ns.length g.ns.length, .int .i64 0]) /\ LLk w'' b (listsU F) g.ns.length /\ w'.heap.size <= b /\ Below w'.heap.size w' w'') := fun w' hb => first_ok g w' (h.later hb) hpc at_ hE
 have MC : Hid (∀ w', Below w.heap.size w w' -> Calls Try.prog 7 #[g.val] w' fun e w'' => e = .returned (.int .i64 0) /\ Below w'.heap.size w' w'') := fun w' hb => by
  have := refmay_G g w' (h.later hb)
  rwa [hE] at this
 have EJ : t.val = .agg #[.int .i64 (jn : Int), .int .i64 t.kind, .string t.tx, .slice t.ka t.kids.length t.kc] := by
  show Value.agg #[.int .i64 t.prod, .int .i64 t.kind, .string t.tx, .slice t.ka t.kids.length t.kc] = _
  rw [hjn]
 have CC : Hid (∀ w', Below w.heap.size w w' -> Calls Try.prog 9 #[g.val, .agg #[.int .i64 (jn : Int), .int .i64 t.kind, .string t.tx, .slice t.ka t.kids.length t.kc]] w' fun e w'' => e = .returned (.tuple #[.int .i64 (runU g (ckT g (0, 0) false t) 0).1, .int .i64 ((runU g (ckT g (0, 0) false t) 0).2 : Int)]) /\ Below w'.heap.size w' w'') := fun w' hb => by rw [<- EJ]; exact check_S g t w' (h.later hb) (ht.later hb) (by omega)
 have YC : Hid (∀ w', Below w.heap.size w w' -> Calls Try.prog 10 #[.agg #[.int .i64 (jn : Int), .int .i64 t.kind, .string t.tx, .slice t.ka t.kids.length t.kc]] w' fun e w'' => ∃ a c, e = .returned (.slice a (leafs (plT 0 t)).length c) /\ TKo w'' (.slice a (leafs (plT 0 t)).length c) (leafs (plT 0 t)) /\ Below w'.heap.size w' w'') := fun w' hb => by rw [<- EJ]; exact yield_S t w' (ht.later hb) (by omega)
 have EC : Hid (∀ w', Below w.heap.size w w' -> Calls Try.prog 14 #[.agg #[.int .i64 (jn : Int), .int .i64 t.kind, .string t.tx, .slice t.ka t.kids.length t.kc]] w' fun e w'' => e = .returned (.tuple #[.int .i64 ((plT 0 t).length : Int), .int .i64 ((leafs (plT 0 t)).length : Int), .int .i64 (hgT t : Int)]) /\ Below w'.heap.size w' w'') := fun w' hb => by rw [<- EJ]; exact measure_S t w' (ht.later hb) hsz
 have HC : Hid (∀ w', Below w.heap.size w w' -> Calls Try.prog 13 #[g.val] w' fun e w'' => ∃ kb, e = .returned (.tuple #[.slice (some ⟨kb, 0, none⟩) g.ns.length g.ns.length, .int .i64 0]) /\ KB w'' kb (htU g.ps g.ns.length g.ns.length) /\ w'.heap.size <= kb /\ Below w'.heap.size w' w'') := fun w' hb => heights_ok g w' (h.later hb) hpc at_ hE
 have NK : Hid (∀ w', Below w.heap.size w w' -> Calls Try.prog 11 #[g.val, .slice na N.length nc] w' fun e w'' => e = .returned (.tuple #[.int .i64 (chkNU g N 0).1, .int .i64 (chkNU g N 0).2]) /\ Below w'.heap.size w' w'') := fun w' hb => chkNull_S g na nc N w' (h.later hb) hpc 0 at_ hE (hN.later hb)
 have FK : Hid (∀ w', Below w.heap.size w w' -> Calls Try.prog 12 #[g.val, .slice na N.length nc, .slice fa L.length fc] w' fun e w'' => e = .returned (.tuple #[.int .i64 (chkFU g N L 0).1, .int .i64 (chkFU g N L 0).2]) /\ Below w'.heap.size w' w'') := fun w' hb => chkFirst_S g na nc N fa fc L w' (h.later hb) hpc 0 at_ hE (hN.later hb) (hL.later hb) hll
 have HGP : Hid (GP g) := (ok.fg h).gp
 have HRT : Hid (RT g t) := RT.of t _ _ (runU_zero _ _ hb)
 have HRO : Hid (rootU g t = (2, (m : Int))) := by
  show _ = _
  rw [root_node (by omega) (by omega), hjn, Int.toNat_natCast, hm]
 have HGA : Hid (∀ w', Below w.heap.size w w' -> GAt 140737488355328 w' g) := fun w' hb => h.later hb
 have HN : Hid (BRow w na N) := hN
 have HL : Hid (LsRow w fa L) := hL
 have HLL : Hid (∀ l ∈ L, l.length <= 140737488355328) := hll
 obtain ⟨pb, po, hpa, -⟩ := ps_cells h hjl
 have HPA : Hid (g.pa = some ⟨pb, po, none⟩) := hpa
 have HPC : Hid (∀ w', Below w.heap.size w w' -> w'.cell? ⟨pb, po + jn * 3, none⟩ = some (.int .i64 (m : Int))) := fun w' hb => by
  obtain ⟨pb', po', hpa', -, c0, -⟩ := ps_cells (h.later hb) hjl
  rw [hpa] at hpa'
  simp only [Option.some.injEq, Addr.mk.injEq, and_true] at hpa'
  obtain ⟨rfl, rfl⟩ := hpa'
  rw [hm] at c0
  exact c0
 have HJ : Hid (t.prod = (jn : Int)) := hjn
 have hnl := ok.nl.2
 have hpl := h.pl
 have jlt : (jn : Int) < (g.ps.length : Int) := by omega
 have j0 : ¬ (jn : Int) < 0 := by omega
 have mlt : (m : Int) < (g.ns.length : Int) := by omega
 have HLE : Hid (∀ F, LeastF g F -> (listsU F).length = g.ns.length) := fun F hF => by
  obtain ⟨k, _, _, _, e⟩ := hF
  simp [listsU, e]
 have t1 : ((0 : Int) != 0) = false := by decide
 obtain ⟨n, hn⟩ : ∃ n, (leafs (plT 0 t)).length = n := ⟨_, rfl⟩
 rw [hn] at YC EC
 have e7 : ((n : Int) == 0) = false := by rw [<- hn, hlv]; simp; omega
 have n0 : 0 < n := by rw [<- hn, hlv]; simp
 clear hn
 have e8 : ((chkNU g N 0).1 != 0) = true := by simpa using hi0
 generalize (chkNU g N 0).1 = ci at *
 have HTS : Hid (∀ F, LeastF g F -> x.t.kind ∈ (listsU F).getD m []) := fun F hF => tree_some HGP.out HRT.out hF HRO.out hlv
 have HLV : Hid (leafs (plT 0 t) = x :: r) := hlv
 clear h ht hsz hE ok hN hL hll hpa hjn hm EJ
 generalize ((runU g (ckT g (0, 0) false t) 0).2 : Int) = cnt at *
 rw [hb] at CC
 clear hb
 clear hlv hi0 
 generalize (chkFU g N L 0).1 = cj at *
 go_enter Try.func3, Try.ntmps3
 go_wp2_with (first
  | (go_at_call 4; refine (works_S _).mono ?_; rintro e w1 ⟨rfl, b1⟩; have B1 : Hid (Below w.heap.size w w1 /\ w1.heap[w.heap.size]? = some (gBox g) /\ w1.heap[w.heap.size + 1]? = some (tBox t)) := ⟨X0.out.1.trans (b1.mono X0.out.1.size), tbox_on X0.out.2.1 b1, tbox_on X0.out.2.2 b1⟩; clear b1; obtain ⟨x0, x1, x2, x3, x4⟩ := gb_cells B1.out.2.1)
  | (go_at_call 5; refine (NC.out _ B1.out.1).mono ?_; rintro e w2 ⟨nb, rfl, n2, -, b2⟩; have B2 : Hid (Below w.heap.size w w2 /\ w2.heap[w.heap.size]? = some (gBox g) /\ w2.heap[w.heap.size + 1]? = some (tBox t) /\ BB w2 nb (nullU g.ps g.ns.length)) := ⟨B1.out.1.trans (b2.mono B1.out.1.size), tbox_on B1.out.2.1 b2, tbox_on B1.out.2.2 b2, n2⟩; clear b2 n2 x0 x1 x2 x3 x4; obtain ⟨x0, x1, x2, x3, x4⟩ := gb_cells B2.out.2.1)
  | (go_at_call 6; refine (FC.out _ B2.out.1).mono ?_; rintro e w3 ⟨mb, F, hF, rfl, l3, -, b3⟩; have HF : Hid (LeastF g F) := hF; have W3 : Hid (FTw w g t nb mb F w3) := ⟨B2.out.1.trans (b3.mono B2.out.1.size), tbox_on B2.out.2.1 b3, tbox_on B2.out.2.2.1 b3, B2.out.2.2.2.later b3, LLk.row (by rw [HLE.out F hF]; exact l3)⟩; clear b3 l3 hF x0 x1 x2 x3 x4; obtain ⟨x0, x1, x2, x3, x4⟩ := gb_cells W3.out.gb)
  | (go_at_call 7; refine (MC.out _ W3.out.bel).mono ?_; rintro e w4 ⟨rfl, b4⟩; have W4 : Hid (FTw w g t nb mb F w4) := W3.out.any b4; clear b4 x0 x1 x2 x3 x4; obtain ⟨x0, x1, x2, x3, x4⟩ := gb_cells W4.out.gb; obtain ⟨y0, y1, y2, y3⟩ := tb_cells W4.out.tb; rw [HJ.out] at y0)
  | (go_at_call 9; refine (CC.out _ W4.out.bel).mono ?_; rintro e w5 ⟨rfl, b5⟩; have W5 : Hid (FTw w g t nb mb F w5) := W4.out.any b5; clear b5 x0 x1 x2 x3 x4 y0 y1 y2 y3; obtain ⟨x0, x1, x2, x3, x4⟩ := gb_cells W5.out.gb; obtain ⟨y0, y1, y2, y3⟩ := tb_cells W5.out.tb; rw [HJ.out] at y0; rw [HPA.out] at x3; have c0 := HPC.out _ W5.out.bel)
  | (go_at_call 10; refine (YC.out _ W5.out.bel).mono ?_; rintro e w6 ⟨ya, yc, rfl, hy6, b6⟩; have W6 : Hid (FTw w g t nb mb F w6) := W5.out.any b6; have Y6 : Hid (TKo w6 (.slice ya n yc) (leafs (plT 0 t))) := hy6; clear b6 hy6 x0 x1 x2 x3 x4 y0 y1 y2 y3 c0; obtain ⟨x0, x1, x2, x3, x4⟩ := gb_cells W6.out.gb)
  | (go_at_call 11; refine (NK.out _ W6.out.bel).mono ?_; rintro e w7 ⟨rfl, b7⟩; have W7 : Hid (FTw w g t nb mb F w7) := W6.out.any b7; have Y7 : Hid (TKo w7 (.slice ya n yc) (leafs (plT 0 t))) := Y6.out.later b7; clear b7 x0 x1 x2 x3 x4; obtain ⟨x0, x1, x2, x3, x4⟩ := gb_cells W7.out.gb)
  | (go_at_call 12; refine (FK.out _ W7.out.bel).mono ?_; rintro e w8 ⟨rfl, b8⟩; have W8 : Hid (FTw w g t nb mb F w8) := W7.out.any b8; have Y8 : Hid (TKo w8 (.slice ya n yc) (leafs (plT 0 t))) := Y7.out.later b8; clear b8 x0 x1 x2 x3 x4; obtain ⟨x0, x1, x2, x3, x4⟩ := gb_cells W8.out.gb)
  )
 have HLS : Hid ((listsU F).length = g.ns.length) := HLE.out F HF.out
 obtain ⟨b', o', e', hmb, ea, ec, hc1, hr1⟩ := lsrow_getD W8.out.fl (show m < (listsU F).length by rw [HLS.out]; exact hml)
 simp only [Option.some.injEq, Addr.mk.injEq, and_true] at e'
 obtain ⟨rfl, rfl⟩ := e'
 obtain ⟨yb, yc', hyv, -, hyc⟩ := RO.cell (f := tkCells) (fun _ => rfl) Y8.out (i := 0) (by rw [HLV.out]; simp)
 have hyk := hyc 0 (by omega)
 have hyx : ∀ hh, (leafs (plT 0 t))[0]'hh = x := fun hh => by simp [HLV.out]
 rw [hyx] at hyk
 simp only [tkCells, List.getElem?_cons_zero, Nat.zero_mul, Nat.zero_add] at hyk
 simp only [Value.slice.injEq] at hyv
 obtain ⟨rfl, -, rfl⟩ := hyv
 clear hyc hyx
 obtain ⟨kd, hkd⟩ : ∃ kd, x.t.kind = kd := ⟨_, rfl⟩
 have HIN1 : Hid (inL ((listsU F).getD m []) kd = true) := by rw [<- hkd]; exact inL_of (HTS.out F HF.out)
 rw [hkd] at hyk
 obtain ⟨l1, hl1⟩ : ∃ l1, (listsU F).getD m [] = l1 := ⟨_, rfl⟩
 rw [hl1] at hc1 hr1 HIN1
 have hs1 : l1.length <= 140737488355328 := by rw [<- hl1]; exact Nat.le_trans listsU_short (by decide)
 have IN1 : Hid (∀ w', Below w8.heap.size w8 w' -> Calls Try.prog 15 #[.slice ea l1.length ec, .int .i64 kd] w' fun e w'' => e = .returned (.bool true) /\ Below w8.heap.size w8 w'') := fun w' hb => by
  have := in_S ea ec l1 kd w' (hr1.later hb) hs1
  rw [HIN1.out] at this
  exact this.mono fun e w'' ⟨q1, q2⟩ => ⟨q1, hb.trans (q2.mono hb.size)⟩
 have hyb : yb < w8.heap.size := Y8.out.lt yb rfl
 rw [Nat.zero_add] at hc1
 have KS : Hid (∀ w', Below w8.heap.size w8 w' -> w'.cell? ⟨mb, m, none⟩ = some (.slice ea l1.length ec) /\ w'.cell? ⟨yb, 0, none⟩ = some (.int .i64 kd)) := fun w' hb => ⟨(hb.cell (p := ⟨mb, m, none⟩) hmb).trans hc1, (hb.cell (p := ⟨yb, 0, none⟩) hyb).trans hyk⟩
 have HB8 : Hid (Below w8.heap.size w8 w8.drew) := (Below.refl _ _).drew
 clear hc1 hyk hr1 hmb hyb hs1 hl1 hkd HIN1
 refine wp_region_q (C := fun w' => Below w8.heap.size w8 w') (by kernel_rfl) (by kernel_rfl) HB8.out ?_
 refine qt_yes (v := ?_) (by rfl) ?_ ?_
 rotate_left
 ·(intro w hSw; obtain ⟨k1, k2⟩ := KS.out w hSw; clear hSw; go_simp; with_reducible rfl)
 (try simp only [Act.put, lsA, lsZ, lsN])
 refine qt_yes (v := ?_) (by rfl) ?_ ?_
 rotate_left
 ·(intro w hSw; obtain ⟨k1, k2⟩ := KS.out w hSw; clear hSw; go_simp; with_reducible rfl)
 (try simp only [Act.put, lsA, lsZ, lsN])
 refine qt_yes (v := ?_) (by rfl) ?_ ?_
 rotate_left
 ·(intro w hSw; obtain ⟨k1, k2⟩ := KS.out w hSw; clear hSw; go_simp; with_reducible rfl)
 (try simp only [Act.put, lsA, lsZ, lsN])
 refine qt_yes (v := ?_) (by rfl) ?_ ?_
 rotate_left
 ·(intro w hSw; obtain ⟨k1, k2⟩ := KS.out w hSw; clear hSw; go_simp; with_reducible rfl)
 (try simp only [Act.put, lsA, lsZ, lsN])
 refine qt_yes (v := ?_) (by rfl) ?_ ?_
 rotate_left
 ·(intro w hSw; obtain ⟨k1, k2⟩ := KS.out w hSw; clear hSw; go_simp; with_reducible rfl)
 (try simp only [Act.put, lsA, lsZ, lsN])
 refine qt_yes (v := ?_) (by rfl) ?_ ?_
 rotate_left
 ·(intro w hSw; obtain ⟨k1, k2⟩ := KS.out w hSw; clear hSw; go_simp; with_reducible rfl)
 (try simp only [Act.put, lsA, lsZ, lsN])
 refine qt_yes (v := ?_) (by rfl) ?_ ?_
 rotate_left
 ·(intro w hSw; obtain ⟨k1, k2⟩ := KS.out w hSw; clear hSw; go_simp; with_reducible rfl)
 (try simp only [Act.put, lsA, lsZ, lsN])
 refine qt_yes (v := ?_) (by rfl) ?_ ?_
 rotate_left
 ·(intro w hSw; obtain ⟨k1, k2⟩ := KS.out w hSw; clear hSw; go_simp; with_reducible rfl)
 (try simp only [Act.put, lsA, lsZ, lsN])
 refine qt_call (v := .bool true) 15 #[.slice ea l1.length ec, .int .i64 kd] (by rfl) (fun w _ => run_inT (v0 := .slice ea l1.length ec) (v1 := .int .i64 kd) (by rfl) (by rfl) (by rfl) w) IN1.out ?_
 (try simp only [Act.put, lsA, lsZ, lsN])
 refine qt_yes (v := ?_) (by rfl) ?_ ?_
 rotate_left
 ·(intro w hSw; obtain ⟨k1, k2⟩ := KS.out w hSw; clear hSw; go_simp; with_reducible rfl)
 (try simp only [Act.put, lsA, lsZ, lsN])
 refine qt_yes (v := ?_) (by rfl) ?_ ?_
 rotate_left
 ·(intro w hSw; obtain ⟨k1, k2⟩ := KS.out w hSw; clear hSw; go_simp; with_reducible rfl)
 (try simp only [Act.put, lsA, lsZ, lsN])
 refine qt_yes (v := ?_) (by rfl) ?_ ?_
 rotate_left
 ·(intro w hSw; obtain ⟨k1, k2⟩ := KS.out w hSw; clear hSw; go_simp; with_reducible rfl)
 (try simp only [Act.put, lsA, lsZ, lsN])
 refine qt_yes (v := ?_) (by rfl) ?_ ?_
 rotate_left
 ·(intro w hSw; obtain ⟨k1, k2⟩ := KS.out w hSw; clear hSw; go_simp; with_reducible rfl)
 (try simp only [Act.put, lsA, lsZ, lsN])
 refine qt_no (by rfl) ?_
 (try simp only [Act.put, lsA, lsZ, lsN])
 refine qt_no (by rfl) ?_
 (try simp only [Act.put, lsA, lsZ, lsN])
 refine qt_yes (v := ?_) (by rfl) ?_ ?_
 rotate_left
 ·(intro w hSw; obtain ⟨k1, k2⟩ := KS.out w hSw; clear hSw; go_simp; with_reducible rfl)
 (try simp only [Act.put, lsA, lsZ, lsN])
 refine qt_yes (v := ?_) (by rfl) ?_ ?_
 rotate_left
 ·(intro w hSw; obtain ⟨k1, k2⟩ := KS.out w hSw; clear hSw; go_simp; with_reducible rfl)
 (try simp only [Act.put, lsA, lsZ, lsN])
 refine qt_no (by rfl) ?_
 (try simp only [Act.put, lsA, lsZ, lsN])
 refine qt_no (by rfl) ?_
 (try simp only [Act.put, lsA, lsZ, lsN])
 refine qt_no (by rfl) ?_
 (try simp only [Act.put, lsA, lsZ, lsN])
 refine qt_no (by rfl) ?_
 (try simp only [Act.put, lsA, lsZ, lsN])
 refine qt_no (by rfl) ?_
 (try simp only [Act.put, lsA, lsZ, lsN])
 refine qt_no (by rfl) ?_
 (try simp only [Act.put, lsA, lsZ, lsN])
 refine qt_no (by rfl) ?_
 (try simp only [Act.put, lsA, lsZ, lsN])
 refine qt_no (by rfl) ?_
 (try simp only [Act.put, lsA, lsZ, lsN])
 refine qt_no (by rfl) ?_
 (try simp only [Act.put, lsA, lsZ, lsN])
 refine qt_yes (v := ?_) (by rfl) ?_ ?_
 rotate_left
 ·(intro w hSw; obtain ⟨k1, k2⟩ := KS.out w hSw; clear hSw; go_simp; with_reducible rfl)
 (try simp only [Act.put, lsA, lsZ, lsN])
 refine qt_yes (v := ?_) (by rfl) ?_ ?_
 rotate_left
 ·(intro w hSw; obtain ⟨k1, k2⟩ := KS.out w hSw; clear hSw; go_simp; with_reducible rfl)
 (try simp only [Act.put, lsA, lsZ, lsN])
 refine qt_yes (v := ?_) (by rfl) ?_ ?_
 rotate_left
 ·(intro w hSw; obtain ⟨k1, k2⟩ := KS.out w hSw; clear hSw; go_simp; with_reducible rfl)
 (try simp only [Act.put, lsA, lsZ, lsN])
 refine qt_nil ?_
 intro w9 hw9
 have HW9 : Hid (Below w.heap.size w w9) := W8.out.bel.trans (hw9.mono W8.out.bel.size)
 clear hw9 KS IN1
 go_wp2
 go_ret
 exact ⟨rfl, HW9.out⟩
set_option linter.unusedSimpArgs false in
theorem trees_some1 (g : GV) (t : TV) (na : Option Addr) (nc : Nat) (N : List Bool) (fa : Option Addr) (fc : Nat) (L : List (List Int)) (w : World) (h : GAt 140737488355328 w g) (hpc : g.ps.length <= g.pc) (ht : TAt w t) (hsz : (plT 0 t).length <= 1048576) (hN : BRow w na N) (hL : LsRow w fa L) (hll : ∀ l ∈ L, l.length <= 140737488355328) (at_ : Int) (hE : checkG g (checkF g.ts g.ns) = (0, at_)) (hb : (runU g (ckT g (0, 0) false t) 0).1 = 0) (jn m : Nat) (hjn : t.prod = (jn : Int)) (hjl : jn < g.ps.length) (hm : (g.ps.getD jn .none).left = (m : Int)) (hml : m < g.ns.length) (x : SP) (r : List SP) (hlv : leafs (plT 0 t) = x :: r) (hi0 : (chkNU g N 0).1 = 0) (hj0 : (chkFU g N L 0).1 ≠ 0) :
  Calls Try.prog 3 #[g.val, t.val, .slice na N.length nc, .slice fa L.length fc] w fun e w' => e = .returned (.bool true) /\ Below w.heap.size w w' := by
 have ok : OkC g := OkC.of (by rw [hE])
 have X0 : Hid (Below w.heap.size w ((w.alloc (gBox g)).alloc (tBox t)) /\ ((w.alloc (gBox g)).alloc (tBox t)).heap[w.heap.size]? = some (gBox g) /\ ((w.alloc (gBox g)).alloc (tBox t)).heap[w.heap.size + 1]? = some (tBox t)) := two_gt w g t
 have NC : Hid (∀ w', Below w.heap.size w w' -> Calls Try.prog 5 #[g.val] w' fun e w'' => ∃ nb, e = .returned (.tuple #[.slice (some ⟨nb, 0, none⟩) g.ns.length g.ns.length, .int .i64 0]) /\ BB w'' nb (nullU g.ps g.ns.length) /\ w'.heap.size <= nb /\ Below w'.heap.size w' w'') := fun w' hb => nullable_ok g w' (h.later hb) hpc at_ hE
 have FC : Hid (∀ w', Below w.heap.size w w' -> Calls Try.prog 6 #[g.val] w' fun e w'' => ∃ b F, LeastF g F /\ e = .returned (.tuple #[.slice (some ⟨b, 0, none⟩) g.ns.length g.ns.length, .int .i64 0]) /\ LLk w'' b (listsU F) g.ns.length /\ w'.heap.size <= b /\ Below w'.heap.size w' w'') := fun w' hb => first_ok g w' (h.later hb) hpc at_ hE
 have MC : Hid (∀ w', Below w.heap.size w w' -> Calls Try.prog 7 #[g.val] w' fun e w'' => e = .returned (.int .i64 0) /\ Below w'.heap.size w' w'') := fun w' hb => by
  have := refmay_G g w' (h.later hb)
  rwa [hE] at this
 have EJ : t.val = .agg #[.int .i64 (jn : Int), .int .i64 t.kind, .string t.tx, .slice t.ka t.kids.length t.kc] := by
  show Value.agg #[.int .i64 t.prod, .int .i64 t.kind, .string t.tx, .slice t.ka t.kids.length t.kc] = _
  rw [hjn]
 have CC : Hid (∀ w', Below w.heap.size w w' -> Calls Try.prog 9 #[g.val, .agg #[.int .i64 (jn : Int), .int .i64 t.kind, .string t.tx, .slice t.ka t.kids.length t.kc]] w' fun e w'' => e = .returned (.tuple #[.int .i64 (runU g (ckT g (0, 0) false t) 0).1, .int .i64 ((runU g (ckT g (0, 0) false t) 0).2 : Int)]) /\ Below w'.heap.size w' w'') := fun w' hb => by rw [<- EJ]; exact check_S g t w' (h.later hb) (ht.later hb) (by omega)
 have YC : Hid (∀ w', Below w.heap.size w w' -> Calls Try.prog 10 #[.agg #[.int .i64 (jn : Int), .int .i64 t.kind, .string t.tx, .slice t.ka t.kids.length t.kc]] w' fun e w'' => ∃ a c, e = .returned (.slice a (leafs (plT 0 t)).length c) /\ TKo w'' (.slice a (leafs (plT 0 t)).length c) (leafs (plT 0 t)) /\ Below w'.heap.size w' w'') := fun w' hb => by rw [<- EJ]; exact yield_S t w' (ht.later hb) (by omega)
 have EC : Hid (∀ w', Below w.heap.size w w' -> Calls Try.prog 14 #[.agg #[.int .i64 (jn : Int), .int .i64 t.kind, .string t.tx, .slice t.ka t.kids.length t.kc]] w' fun e w'' => e = .returned (.tuple #[.int .i64 ((plT 0 t).length : Int), .int .i64 ((leafs (plT 0 t)).length : Int), .int .i64 (hgT t : Int)]) /\ Below w'.heap.size w' w'') := fun w' hb => by rw [<- EJ]; exact measure_S t w' (ht.later hb) hsz
 have HC : Hid (∀ w', Below w.heap.size w w' -> Calls Try.prog 13 #[g.val] w' fun e w'' => ∃ kb, e = .returned (.tuple #[.slice (some ⟨kb, 0, none⟩) g.ns.length g.ns.length, .int .i64 0]) /\ KB w'' kb (htU g.ps g.ns.length g.ns.length) /\ w'.heap.size <= kb /\ Below w'.heap.size w' w'') := fun w' hb => heights_ok g w' (h.later hb) hpc at_ hE
 have NK : Hid (∀ w', Below w.heap.size w w' -> Calls Try.prog 11 #[g.val, .slice na N.length nc] w' fun e w'' => e = .returned (.tuple #[.int .i64 (chkNU g N 0).1, .int .i64 (chkNU g N 0).2]) /\ Below w'.heap.size w' w'') := fun w' hb => chkNull_S g na nc N w' (h.later hb) hpc 0 at_ hE (hN.later hb)
 have FK : Hid (∀ w', Below w.heap.size w w' -> Calls Try.prog 12 #[g.val, .slice na N.length nc, .slice fa L.length fc] w' fun e w'' => e = .returned (.tuple #[.int .i64 (chkFU g N L 0).1, .int .i64 (chkFU g N L 0).2]) /\ Below w'.heap.size w' w'') := fun w' hb => chkFirst_S g na nc N fa fc L w' (h.later hb) hpc 0 at_ hE (hN.later hb) (hL.later hb) hll
 have HGP : Hid (GP g) := (ok.fg h).gp
 have HRT : Hid (RT g t) := RT.of t _ _ (runU_zero _ _ hb)
 have HRO : Hid (rootU g t = (2, (m : Int))) := by
  show _ = _
  rw [root_node (by omega) (by omega), hjn, Int.toNat_natCast, hm]
 have HGA : Hid (∀ w', Below w.heap.size w w' -> GAt 140737488355328 w' g) := fun w' hb => h.later hb
 have HN : Hid (BRow w na N) := hN
 have HL : Hid (LsRow w fa L) := hL
 have HLL : Hid (∀ l ∈ L, l.length <= 140737488355328) := hll
 obtain ⟨pb, po, hpa, -⟩ := ps_cells h hjl
 have HPA : Hid (g.pa = some ⟨pb, po, none⟩) := hpa
 have HPC : Hid (∀ w', Below w.heap.size w w' -> w'.cell? ⟨pb, po + jn * 3, none⟩ = some (.int .i64 (m : Int))) := fun w' hb => by
  obtain ⟨pb', po', hpa', -, c0, -⟩ := ps_cells (h.later hb) hjl
  rw [hpa] at hpa'
  simp only [Option.some.injEq, Addr.mk.injEq, and_true] at hpa'
  obtain ⟨rfl, rfl⟩ := hpa'
  rw [hm] at c0
  exact c0
 have HJ : Hid (t.prod = (jn : Int)) := hjn
 have hnl := ok.nl.2
 have hpl := h.pl
 have jlt : (jn : Int) < (g.ps.length : Int) := by omega
 have j0 : ¬ (jn : Int) < 0 := by omega
 have mlt : (m : Int) < (g.ns.length : Int) := by omega
 have HLE : Hid (∀ F, LeastF g F -> (listsU F).length = g.ns.length) := fun F hF => by
  obtain ⟨k, _, _, _, e⟩ := hF
  simp [listsU, e]
 have t1 : ((0 : Int) != 0) = false := by decide
 obtain ⟨n, hn⟩ : ∃ n, (leafs (plT 0 t)).length = n := ⟨_, rfl⟩
 rw [hn] at YC EC
 have e7 : ((n : Int) == 0) = false := by rw [<- hn, hlv]; simp; omega
 have n0 : 0 < n := by rw [<- hn, hlv]; simp
 clear hn
 obtain ⟨hNl, hN0⟩ := chkNU_zero hi0
 rw [hi0] at NK
 have e9 : ((chkFU g N L 0).1 != 0) = true := by simpa using hj0
 generalize (chkFU g N L 0).1 = cj at *
 have HTS : Hid (∀ F, LeastF g F -> x.t.kind ∈ (listsU F).getD m []) := fun F hF => tree_some HGP.out HRT.out hF HRO.out hlv
 have HLV : Hid (leafs (plT 0 t) = x :: r) := hlv
 clear h ht hsz hE ok hN hL hll hpa hjn hm EJ
 generalize ((runU g (ckT g (0, 0) false t) 0).2 : Int) = cnt at *
 rw [hb] at CC
 clear hb
 clear hlv hi0 hNl hN0 hj0
 go_enter Try.func3, Try.ntmps3
 go_wp2_with (first
  | (go_at_call 4; refine (works_S _).mono ?_; rintro e w1 ⟨rfl, b1⟩; have B1 : Hid (Below w.heap.size w w1 /\ w1.heap[w.heap.size]? = some (gBox g) /\ w1.heap[w.heap.size + 1]? = some (tBox t)) := ⟨X0.out.1.trans (b1.mono X0.out.1.size), tbox_on X0.out.2.1 b1, tbox_on X0.out.2.2 b1⟩; clear b1; obtain ⟨x0, x1, x2, x3, x4⟩ := gb_cells B1.out.2.1)
  | (go_at_call 5; refine (NC.out _ B1.out.1).mono ?_; rintro e w2 ⟨nb, rfl, n2, -, b2⟩; have B2 : Hid (Below w.heap.size w w2 /\ w2.heap[w.heap.size]? = some (gBox g) /\ w2.heap[w.heap.size + 1]? = some (tBox t) /\ BB w2 nb (nullU g.ps g.ns.length)) := ⟨B1.out.1.trans (b2.mono B1.out.1.size), tbox_on B1.out.2.1 b2, tbox_on B1.out.2.2 b2, n2⟩; clear b2 n2 x0 x1 x2 x3 x4; obtain ⟨x0, x1, x2, x3, x4⟩ := gb_cells B2.out.2.1)
  | (go_at_call 6; refine (FC.out _ B2.out.1).mono ?_; rintro e w3 ⟨mb, F, hF, rfl, l3, -, b3⟩; have HF : Hid (LeastF g F) := hF; have W3 : Hid (FTw w g t nb mb F w3) := ⟨B2.out.1.trans (b3.mono B2.out.1.size), tbox_on B2.out.2.1 b3, tbox_on B2.out.2.2.1 b3, B2.out.2.2.2.later b3, LLk.row (by rw [HLE.out F hF]; exact l3)⟩; clear b3 l3 hF x0 x1 x2 x3 x4; obtain ⟨x0, x1, x2, x3, x4⟩ := gb_cells W3.out.gb)
  | (go_at_call 7; refine (MC.out _ W3.out.bel).mono ?_; rintro e w4 ⟨rfl, b4⟩; have W4 : Hid (FTw w g t nb mb F w4) := W3.out.any b4; clear b4 x0 x1 x2 x3 x4; obtain ⟨x0, x1, x2, x3, x4⟩ := gb_cells W4.out.gb; obtain ⟨y0, y1, y2, y3⟩ := tb_cells W4.out.tb; rw [HJ.out] at y0)
  | (go_at_call 9; refine (CC.out _ W4.out.bel).mono ?_; rintro e w5 ⟨rfl, b5⟩; have W5 : Hid (FTw w g t nb mb F w5) := W4.out.any b5; clear b5 x0 x1 x2 x3 x4 y0 y1 y2 y3; obtain ⟨x0, x1, x2, x3, x4⟩ := gb_cells W5.out.gb; obtain ⟨y0, y1, y2, y3⟩ := tb_cells W5.out.tb; rw [HJ.out] at y0; rw [HPA.out] at x3; have c0 := HPC.out _ W5.out.bel)
  | (go_at_call 10; refine (YC.out _ W5.out.bel).mono ?_; rintro e w6 ⟨ya, yc, rfl, hy6, b6⟩; have W6 : Hid (FTw w g t nb mb F w6) := W5.out.any b6; have Y6 : Hid (TKo w6 (.slice ya n yc) (leafs (plT 0 t))) := hy6; clear b6 hy6 x0 x1 x2 x3 x4 y0 y1 y2 y3 c0; obtain ⟨x0, x1, x2, x3, x4⟩ := gb_cells W6.out.gb)
  | (go_at_call 11; refine (NK.out _ W6.out.bel).mono ?_; rintro e w7 ⟨rfl, b7⟩; have W7 : Hid (FTw w g t nb mb F w7) := W6.out.any b7; have Y7 : Hid (TKo w7 (.slice ya n yc) (leafs (plT 0 t))) := Y6.out.later b7; clear b7 x0 x1 x2 x3 x4; obtain ⟨x0, x1, x2, x3, x4⟩ := gb_cells W7.out.gb)
  | (go_at_call 12; refine (FK.out _ W7.out.bel).mono ?_; rintro e w8 ⟨rfl, b8⟩; have W8 : Hid (FTw w g t nb mb F w8) := W7.out.any b8; have Y8 : Hid (TKo w8 (.slice ya n yc) (leafs (plT 0 t))) := Y7.out.later b8; clear b8 x0 x1 x2 x3 x4; obtain ⟨x0, x1, x2, x3, x4⟩ := gb_cells W8.out.gb)
  )
 have HLS : Hid ((listsU F).length = g.ns.length) := HLE.out F HF.out
 obtain ⟨b', o', e', hmb, ea, ec, hc1, hr1⟩ := lsrow_getD W8.out.fl (show m < (listsU F).length by rw [HLS.out]; exact hml)
 simp only [Option.some.injEq, Addr.mk.injEq, and_true] at e'
 obtain ⟨rfl, rfl⟩ := e'
 obtain ⟨yb, yc', hyv, -, hyc⟩ := RO.cell (f := tkCells) (fun _ => rfl) Y8.out (i := 0) (by rw [HLV.out]; simp)
 have hyk := hyc 0 (by omega)
 have hyx : ∀ hh, (leafs (plT 0 t))[0]'hh = x := fun hh => by simp [HLV.out]
 rw [hyx] at hyk
 simp only [tkCells, List.getElem?_cons_zero, Nat.zero_mul, Nat.zero_add] at hyk
 simp only [Value.slice.injEq] at hyv
 obtain ⟨rfl, -, rfl⟩ := hyv
 clear hyc hyx
 obtain ⟨kd, hkd⟩ : ∃ kd, x.t.kind = kd := ⟨_, rfl⟩
 have HIN1 : Hid (inL ((listsU F).getD m []) kd = true) := by rw [<- hkd]; exact inL_of (HTS.out F HF.out)
 rw [hkd] at hyk
 obtain ⟨l1, hl1⟩ : ∃ l1, (listsU F).getD m [] = l1 := ⟨_, rfl⟩
 rw [hl1] at hc1 hr1 HIN1
 have hs1 : l1.length <= 140737488355328 := by rw [<- hl1]; exact Nat.le_trans listsU_short (by decide)
 have IN1 : Hid (∀ w', Below w8.heap.size w8 w' -> Calls Try.prog 15 #[.slice ea l1.length ec, .int .i64 kd] w' fun e w'' => e = .returned (.bool true) /\ Below w8.heap.size w8 w'') := fun w' hb => by
  have := in_S ea ec l1 kd w' (hr1.later hb) hs1
  rw [HIN1.out] at this
  exact this.mono fun e w'' ⟨q1, q2⟩ => ⟨q1, hb.trans (q2.mono hb.size)⟩
 have hyb : yb < w8.heap.size := Y8.out.lt yb rfl
 rw [Nat.zero_add] at hc1
 have KS : Hid (∀ w', Below w8.heap.size w8 w' -> w'.cell? ⟨mb, m, none⟩ = some (.slice ea l1.length ec) /\ w'.cell? ⟨yb, 0, none⟩ = some (.int .i64 kd)) := fun w' hb => ⟨(hb.cell (p := ⟨mb, m, none⟩) hmb).trans hc1, (hb.cell (p := ⟨yb, 0, none⟩) hyb).trans hyk⟩
 have HB8 : Hid (Below w8.heap.size w8 w8.drew) := (Below.refl _ _).drew
 clear hc1 hyk hr1 hmb hyb hs1 hl1 hkd HIN1
 refine wp_region_q (C := fun w' => Below w8.heap.size w8 w') (by kernel_rfl) (by kernel_rfl) HB8.out ?_
 refine qt_yes (v := ?_) (by rfl) ?_ ?_
 rotate_left
 ·(intro w hSw; obtain ⟨k1, k2⟩ := KS.out w hSw; clear hSw; go_simp; with_reducible rfl)
 (try simp only [Act.put, lsA, lsZ, lsN])
 refine qt_yes (v := ?_) (by rfl) ?_ ?_
 rotate_left
 ·(intro w hSw; obtain ⟨k1, k2⟩ := KS.out w hSw; clear hSw; go_simp; with_reducible rfl)
 (try simp only [Act.put, lsA, lsZ, lsN])
 refine qt_yes (v := ?_) (by rfl) ?_ ?_
 rotate_left
 ·(intro w hSw; obtain ⟨k1, k2⟩ := KS.out w hSw; clear hSw; go_simp; with_reducible rfl)
 (try simp only [Act.put, lsA, lsZ, lsN])
 refine qt_yes (v := ?_) (by rfl) ?_ ?_
 rotate_left
 ·(intro w hSw; obtain ⟨k1, k2⟩ := KS.out w hSw; clear hSw; go_simp; with_reducible rfl)
 (try simp only [Act.put, lsA, lsZ, lsN])
 refine qt_yes (v := ?_) (by rfl) ?_ ?_
 rotate_left
 ·(intro w hSw; obtain ⟨k1, k2⟩ := KS.out w hSw; clear hSw; go_simp; with_reducible rfl)
 (try simp only [Act.put, lsA, lsZ, lsN])
 refine qt_yes (v := ?_) (by rfl) ?_ ?_
 rotate_left
 ·(intro w hSw; obtain ⟨k1, k2⟩ := KS.out w hSw; clear hSw; go_simp; with_reducible rfl)
 (try simp only [Act.put, lsA, lsZ, lsN])
 refine qt_yes (v := ?_) (by rfl) ?_ ?_
 rotate_left
 ·(intro w hSw; obtain ⟨k1, k2⟩ := KS.out w hSw; clear hSw; go_simp; with_reducible rfl)
 (try simp only [Act.put, lsA, lsZ, lsN])
 refine qt_yes (v := ?_) (by rfl) ?_ ?_
 rotate_left
 ·(intro w hSw; obtain ⟨k1, k2⟩ := KS.out w hSw; clear hSw; go_simp; with_reducible rfl)
 (try simp only [Act.put, lsA, lsZ, lsN])
 refine qt_call (v := .bool true) 15 #[.slice ea l1.length ec, .int .i64 kd] (by rfl) (fun w _ => run_inT (v0 := .slice ea l1.length ec) (v1 := .int .i64 kd) (by rfl) (by rfl) (by rfl) w) IN1.out ?_
 (try simp only [Act.put, lsA, lsZ, lsN])
 refine qt_yes (v := ?_) (by rfl) ?_ ?_
 rotate_left
 ·(intro w hSw; obtain ⟨k1, k2⟩ := KS.out w hSw; clear hSw; go_simp; with_reducible rfl)
 (try simp only [Act.put, lsA, lsZ, lsN])
 refine qt_yes (v := ?_) (by rfl) ?_ ?_
 rotate_left
 ·(intro w hSw; obtain ⟨k1, k2⟩ := KS.out w hSw; clear hSw; go_simp; with_reducible rfl)
 (try simp only [Act.put, lsA, lsZ, lsN])
 refine qt_yes (v := ?_) (by rfl) ?_ ?_
 rotate_left
 ·(intro w hSw; obtain ⟨k1, k2⟩ := KS.out w hSw; clear hSw; go_simp; with_reducible rfl)
 (try simp only [Act.put, lsA, lsZ, lsN])
 refine qt_yes (v := ?_) (by rfl) ?_ ?_
 rotate_left
 ·(intro w hSw; obtain ⟨k1, k2⟩ := KS.out w hSw; clear hSw; go_simp; with_reducible rfl)
 (try simp only [Act.put, lsA, lsZ, lsN])
 refine qt_yes (v := ?_) (by rfl) ?_ ?_
 rotate_left
 ·(intro w hSw; obtain ⟨k1, k2⟩ := KS.out w hSw; clear hSw; go_simp; with_reducible rfl)
 (try simp only [Act.put, lsA, lsZ, lsN])
 refine qt_yes (v := ?_) (by rfl) ?_ ?_
 rotate_left
 ·(intro w hSw; obtain ⟨k1, k2⟩ := KS.out w hSw; clear hSw; go_simp; with_reducible rfl)
 (try simp only [Act.put, lsA, lsZ, lsN])
 refine qt_yes (v := ?_) (by rfl) ?_ ?_
 rotate_left
 ·(intro w hSw; obtain ⟨k1, k2⟩ := KS.out w hSw; clear hSw; go_simp; with_reducible rfl)
 (try simp only [Act.put, lsA, lsZ, lsN])
 refine qt_yes (v := ?_) (by rfl) ?_ ?_
 rotate_left
 ·(intro w hSw; obtain ⟨k1, k2⟩ := KS.out w hSw; clear hSw; go_simp; with_reducible rfl)
 (try simp only [Act.put, lsA, lsZ, lsN])
 refine qt_no (by rfl) ?_
 (try simp only [Act.put, lsA, lsZ, lsN])
 refine qt_no (by rfl) ?_
 (try simp only [Act.put, lsA, lsZ, lsN])
 refine qt_no (by rfl) ?_
 (try simp only [Act.put, lsA, lsZ, lsN])
 refine qt_no (by rfl) ?_
 (try simp only [Act.put, lsA, lsZ, lsN])
 refine qt_no (by rfl) ?_
 (try simp only [Act.put, lsA, lsZ, lsN])
 refine qt_no (by rfl) ?_
 (try simp only [Act.put, lsA, lsZ, lsN])
 refine qt_no (by rfl) ?_
 (try simp only [Act.put, lsA, lsZ, lsN])
 refine qt_no (by rfl) ?_
 (try simp only [Act.put, lsA, lsZ, lsN])
 refine qt_no (by rfl) ?_
 (try simp only [Act.put, lsA, lsZ, lsN])
 refine qt_yes (v := ?_) (by rfl) ?_ ?_
 rotate_left
 ·(intro w hSw; obtain ⟨k1, k2⟩ := KS.out w hSw; clear hSw; go_simp; with_reducible rfl)
 (try simp only [Act.put, lsA, lsZ, lsN])
 refine qt_yes (v := ?_) (by rfl) ?_ ?_
 rotate_left
 ·(intro w hSw; obtain ⟨k1, k2⟩ := KS.out w hSw; clear hSw; go_simp; with_reducible rfl)
 (try simp only [Act.put, lsA, lsZ, lsN])
 refine qt_yes (v := ?_) (by rfl) ?_ ?_
 rotate_left
 ·(intro w hSw; obtain ⟨k1, k2⟩ := KS.out w hSw; clear hSw; go_simp; with_reducible rfl)
 (try simp only [Act.put, lsA, lsZ, lsN])
 refine qt_nil ?_
 intro w9 hw9
 have HW9 : Hid (Below w.heap.size w w9) := W8.out.bel.trans (hw9.mono W8.out.bel.size)
 clear hw9 KS IN1
 go_wp2
 go_ret
 exact ⟨rfl, HW9.out⟩
set_option linter.unusedSimpArgs false in
theorem trees_some2 (g : GV) (t : TV) (na : Option Addr) (nc : Nat) (N : List Bool) (fa : Option Addr) (fc : Nat) (L : List (List Int)) (w : World) (h : GAt 140737488355328 w g) (hpc : g.ps.length <= g.pc) (ht : TAt w t) (hsz : (plT 0 t).length <= 1048576) (hN : BRow w na N) (hL : LsRow w fa L) (hll : ∀ l ∈ L, l.length <= 140737488355328) (at_ : Int) (hE : checkG g (checkF g.ts g.ns) = (0, at_)) (hb : (runU g (ckT g (0, 0) false t) 0).1 = 0) (jn m : Nat) (hjn : t.prod = (jn : Int)) (hjl : jn < g.ps.length) (hm : (g.ps.getD jn .none).left = (m : Int)) (hml : m < g.ns.length) (x : SP) (r : List SP) (hlv : leafs (plT 0 t) = x :: r) (hi0 : (chkNU g N 0).1 = 0) (hj0 : (chkFU g N L 0).1 = 0) :
  Calls Try.prog 3 #[g.val, t.val, .slice na N.length nc, .slice fa L.length fc] w fun e w' => e = .returned (.bool true) /\ Below w.heap.size w w' := by
 have ok : OkC g := OkC.of (by rw [hE])
 have X0 : Hid (Below w.heap.size w ((w.alloc (gBox g)).alloc (tBox t)) /\ ((w.alloc (gBox g)).alloc (tBox t)).heap[w.heap.size]? = some (gBox g) /\ ((w.alloc (gBox g)).alloc (tBox t)).heap[w.heap.size + 1]? = some (tBox t)) := two_gt w g t
 have NC : Hid (∀ w', Below w.heap.size w w' -> Calls Try.prog 5 #[g.val] w' fun e w'' => ∃ nb, e = .returned (.tuple #[.slice (some ⟨nb, 0, none⟩) g.ns.length g.ns.length, .int .i64 0]) /\ BB w'' nb (nullU g.ps g.ns.length) /\ w'.heap.size <= nb /\ Below w'.heap.size w' w'') := fun w' hb => nullable_ok g w' (h.later hb) hpc at_ hE
 have FC : Hid (∀ w', Below w.heap.size w w' -> Calls Try.prog 6 #[g.val] w' fun e w'' => ∃ b F, LeastF g F /\ e = .returned (.tuple #[.slice (some ⟨b, 0, none⟩) g.ns.length g.ns.length, .int .i64 0]) /\ LLk w'' b (listsU F) g.ns.length /\ w'.heap.size <= b /\ Below w'.heap.size w' w'') := fun w' hb => first_ok g w' (h.later hb) hpc at_ hE
 have MC : Hid (∀ w', Below w.heap.size w w' -> Calls Try.prog 7 #[g.val] w' fun e w'' => e = .returned (.int .i64 0) /\ Below w'.heap.size w' w'') := fun w' hb => by
  have := refmay_G g w' (h.later hb)
  rwa [hE] at this
 have EJ : t.val = .agg #[.int .i64 (jn : Int), .int .i64 t.kind, .string t.tx, .slice t.ka t.kids.length t.kc] := by
  show Value.agg #[.int .i64 t.prod, .int .i64 t.kind, .string t.tx, .slice t.ka t.kids.length t.kc] = _
  rw [hjn]
 have CC : Hid (∀ w', Below w.heap.size w w' -> Calls Try.prog 9 #[g.val, .agg #[.int .i64 (jn : Int), .int .i64 t.kind, .string t.tx, .slice t.ka t.kids.length t.kc]] w' fun e w'' => e = .returned (.tuple #[.int .i64 (runU g (ckT g (0, 0) false t) 0).1, .int .i64 ((runU g (ckT g (0, 0) false t) 0).2 : Int)]) /\ Below w'.heap.size w' w'') := fun w' hb => by rw [<- EJ]; exact check_S g t w' (h.later hb) (ht.later hb) (by omega)
 have YC : Hid (∀ w', Below w.heap.size w w' -> Calls Try.prog 10 #[.agg #[.int .i64 (jn : Int), .int .i64 t.kind, .string t.tx, .slice t.ka t.kids.length t.kc]] w' fun e w'' => ∃ a c, e = .returned (.slice a (leafs (plT 0 t)).length c) /\ TKo w'' (.slice a (leafs (plT 0 t)).length c) (leafs (plT 0 t)) /\ Below w'.heap.size w' w'') := fun w' hb => by rw [<- EJ]; exact yield_S t w' (ht.later hb) (by omega)
 have EC : Hid (∀ w', Below w.heap.size w w' -> Calls Try.prog 14 #[.agg #[.int .i64 (jn : Int), .int .i64 t.kind, .string t.tx, .slice t.ka t.kids.length t.kc]] w' fun e w'' => e = .returned (.tuple #[.int .i64 ((plT 0 t).length : Int), .int .i64 ((leafs (plT 0 t)).length : Int), .int .i64 (hgT t : Int)]) /\ Below w'.heap.size w' w'') := fun w' hb => by rw [<- EJ]; exact measure_S t w' (ht.later hb) hsz
 have HC : Hid (∀ w', Below w.heap.size w w' -> Calls Try.prog 13 #[g.val] w' fun e w'' => ∃ kb, e = .returned (.tuple #[.slice (some ⟨kb, 0, none⟩) g.ns.length g.ns.length, .int .i64 0]) /\ KB w'' kb (htU g.ps g.ns.length g.ns.length) /\ w'.heap.size <= kb /\ Below w'.heap.size w' w'') := fun w' hb => heights_ok g w' (h.later hb) hpc at_ hE
 have NK : Hid (∀ w', Below w.heap.size w w' -> Calls Try.prog 11 #[g.val, .slice na N.length nc] w' fun e w'' => e = .returned (.tuple #[.int .i64 (chkNU g N 0).1, .int .i64 (chkNU g N 0).2]) /\ Below w'.heap.size w' w'') := fun w' hb => chkNull_S g na nc N w' (h.later hb) hpc 0 at_ hE (hN.later hb)
 have FK : Hid (∀ w', Below w.heap.size w w' -> Calls Try.prog 12 #[g.val, .slice na N.length nc, .slice fa L.length fc] w' fun e w'' => e = .returned (.tuple #[.int .i64 (chkFU g N L 0).1, .int .i64 (chkFU g N L 0).2]) /\ Below w'.heap.size w' w'') := fun w' hb => chkFirst_S g na nc N fa fc L w' (h.later hb) hpc 0 at_ hE (hN.later hb) (hL.later hb) hll
 have HGP : Hid (GP g) := (ok.fg h).gp
 have HRT : Hid (RT g t) := RT.of t _ _ (runU_zero _ _ hb)
 have HRO : Hid (rootU g t = (2, (m : Int))) := by
  show _ = _
  rw [root_node (by omega) (by omega), hjn, Int.toNat_natCast, hm]
 have HGA : Hid (∀ w', Below w.heap.size w w' -> GAt 140737488355328 w' g) := fun w' hb => h.later hb
 have HN : Hid (BRow w na N) := hN
 have HL : Hid (LsRow w fa L) := hL
 have HLL : Hid (∀ l ∈ L, l.length <= 140737488355328) := hll
 obtain ⟨pb, po, hpa, -⟩ := ps_cells h hjl
 have HPA : Hid (g.pa = some ⟨pb, po, none⟩) := hpa
 have HPC : Hid (∀ w', Below w.heap.size w w' -> w'.cell? ⟨pb, po + jn * 3, none⟩ = some (.int .i64 (m : Int))) := fun w' hb => by
  obtain ⟨pb', po', hpa', -, c0, -⟩ := ps_cells (h.later hb) hjl
  rw [hpa] at hpa'
  simp only [Option.some.injEq, Addr.mk.injEq, and_true] at hpa'
  obtain ⟨rfl, rfl⟩ := hpa'
  rw [hm] at c0
  exact c0
 have HJ : Hid (t.prod = (jn : Int)) := hjn
 have hnl := ok.nl.2
 have hpl := h.pl
 have jlt : (jn : Int) < (g.ps.length : Int) := by omega
 have j0 : ¬ (jn : Int) < 0 := by omega
 have mlt : (m : Int) < (g.ns.length : Int) := by omega
 have HLE : Hid (∀ F, LeastF g F -> (listsU F).length = g.ns.length) := fun F hF => by
  obtain ⟨k, _, _, _, e⟩ := hF
  simp [listsU, e]
 have t1 : ((0 : Int) != 0) = false := by decide
 obtain ⟨n, hn⟩ : ∃ n, (leafs (plT 0 t)).length = n := ⟨_, rfl⟩
 rw [hn] at YC EC
 have e7 : ((n : Int) == 0) = false := by rw [<- hn, hlv]; simp; omega
 have n0 : 0 < n := by rw [<- hn, hlv]; simp
 clear hn
 obtain ⟨hNl, hN0⟩ := chkNU_zero hi0
 rw [hi0] at NK
 obtain ⟨hLl, hL0⟩ := chkFU_zero hj0
 rw [hj0] at FK
 have HIN : Hid (∀ F, LeastF g F -> x.t.kind ∈ L.getD m []) := fun F hF => least_part HGP.out hF hNl hN0 hL0 hLl m hml _ (tree_some HGP.out HRT.out hF HRO.out hlv)
 obtain ⟨fab, fao, hfa, -⟩ := lsrow_getD HL.out (show m < L.length by omega)
 have mL : (m : Int) < (L.length : Int) := by omega
 have HLK : Hid (∀ w', Below w.heap.size w w' -> fab < w'.heap.size /\ ∃ a c, w'.cell? ⟨fab, fao + m, none⟩ = some (.slice a (L.getD m []).length c) /\ InRow w' a (L.getD m [])) := fun w' hb => by
  obtain ⟨b', o', e', q⟩ := lsrow_getD (HL.out.later hb) (show m < L.length by omega)
  rw [hfa] at e'
  simp only [Option.some.injEq, Addr.mk.injEq, and_true] at e'
  obtain ⟨rfl, rfl⟩ := e'
  exact q
 have HLM : Hid ((L.getD m []).length <= 140737488355328) := HLL.out _ (by
  have hm2 : m < L.length := by omega
  rw [List.getD_eq_getElem?_getD, List.getElem?_eq_getElem hm2]
  exact List.getElem_mem hm2)
 rw [hfa] at FK ⊢
 have HTS : Hid (∀ F, LeastF g F -> x.t.kind ∈ (listsU F).getD m []) := fun F hF => tree_some HGP.out HRT.out hF HRO.out hlv
 have HLV : Hid (leafs (plT 0 t) = x :: r) := hlv
 clear h ht hsz hE ok hN hL hll hpa hjn hm EJ
 generalize ((runU g (ckT g (0, 0) false t) 0).2 : Int) = cnt at *
 rw [hb] at CC
 clear hb
 clear hlv hi0 hNl hN0 hj0 hLl hL0 hfa
 go_enter Try.func3, Try.ntmps3
 go_wp2_with (first
  | (go_at_call 4; refine (works_S _).mono ?_; rintro e w1 ⟨rfl, b1⟩; have B1 : Hid (Below w.heap.size w w1 /\ w1.heap[w.heap.size]? = some (gBox g) /\ w1.heap[w.heap.size + 1]? = some (tBox t)) := ⟨X0.out.1.trans (b1.mono X0.out.1.size), tbox_on X0.out.2.1 b1, tbox_on X0.out.2.2 b1⟩; clear b1; obtain ⟨x0, x1, x2, x3, x4⟩ := gb_cells B1.out.2.1)
  | (go_at_call 5; refine (NC.out _ B1.out.1).mono ?_; rintro e w2 ⟨nb, rfl, n2, -, b2⟩; have B2 : Hid (Below w.heap.size w w2 /\ w2.heap[w.heap.size]? = some (gBox g) /\ w2.heap[w.heap.size + 1]? = some (tBox t) /\ BB w2 nb (nullU g.ps g.ns.length)) := ⟨B1.out.1.trans (b2.mono B1.out.1.size), tbox_on B1.out.2.1 b2, tbox_on B1.out.2.2 b2, n2⟩; clear b2 n2 x0 x1 x2 x3 x4; obtain ⟨x0, x1, x2, x3, x4⟩ := gb_cells B2.out.2.1)
  | (go_at_call 6; refine (FC.out _ B2.out.1).mono ?_; rintro e w3 ⟨mb, F, hF, rfl, l3, -, b3⟩; have HF : Hid (LeastF g F) := hF; have W3 : Hid (FTw w g t nb mb F w3) := ⟨B2.out.1.trans (b3.mono B2.out.1.size), tbox_on B2.out.2.1 b3, tbox_on B2.out.2.2.1 b3, B2.out.2.2.2.later b3, LLk.row (by rw [HLE.out F hF]; exact l3)⟩; clear b3 l3 hF x0 x1 x2 x3 x4; obtain ⟨x0, x1, x2, x3, x4⟩ := gb_cells W3.out.gb)
  | (go_at_call 7; refine (MC.out _ W3.out.bel).mono ?_; rintro e w4 ⟨rfl, b4⟩; have W4 : Hid (FTw w g t nb mb F w4) := W3.out.any b4; clear b4 x0 x1 x2 x3 x4; obtain ⟨x0, x1, x2, x3, x4⟩ := gb_cells W4.out.gb; obtain ⟨y0, y1, y2, y3⟩ := tb_cells W4.out.tb; rw [HJ.out] at y0)
  | (go_at_call 9; refine (CC.out _ W4.out.bel).mono ?_; rintro e w5 ⟨rfl, b5⟩; have W5 : Hid (FTw w g t nb mb F w5) := W4.out.any b5; clear b5 x0 x1 x2 x3 x4 y0 y1 y2 y3; obtain ⟨x0, x1, x2, x3, x4⟩ := gb_cells W5.out.gb; obtain ⟨y0, y1, y2, y3⟩ := tb_cells W5.out.tb; rw [HJ.out] at y0; rw [HPA.out] at x3; have c0 := HPC.out _ W5.out.bel)
  | (go_at_call 10; refine (YC.out _ W5.out.bel).mono ?_; rintro e w6 ⟨ya, yc, rfl, hy6, b6⟩; have W6 : Hid (FTw w g t nb mb F w6) := W5.out.any b6; have Y6 : Hid (TKo w6 (.slice ya n yc) (leafs (plT 0 t))) := hy6; clear b6 hy6 x0 x1 x2 x3 x4 y0 y1 y2 y3 c0; obtain ⟨x0, x1, x2, x3, x4⟩ := gb_cells W6.out.gb)
  | (go_at_call 11; refine (NK.out _ W6.out.bel).mono ?_; rintro e w7 ⟨rfl, b7⟩; have W7 : Hid (FTw w g t nb mb F w7) := W6.out.any b7; have Y7 : Hid (TKo w7 (.slice ya n yc) (leafs (plT 0 t))) := Y6.out.later b7; clear b7 x0 x1 x2 x3 x4; obtain ⟨x0, x1, x2, x3, x4⟩ := gb_cells W7.out.gb)
  | (go_at_call 12; refine (FK.out _ W7.out.bel).mono ?_; rintro e w8 ⟨rfl, b8⟩; have W8 : Hid (FTw w g t nb mb F w8) := W7.out.any b8; have Y8 : Hid (TKo w8 (.slice ya n yc) (leafs (plT 0 t))) := Y7.out.later b8; clear b8 x0 x1 x2 x3 x4; obtain ⟨x0, x1, x2, x3, x4⟩ := gb_cells W8.out.gb)
  )
 have HLS : Hid ((listsU F).length = g.ns.length) := HLE.out F HF.out
 obtain ⟨b', o', e', hmb, ea, ec, hc1, hr1⟩ := lsrow_getD W8.out.fl (show m < (listsU F).length by rw [HLS.out]; exact hml)
 simp only [Option.some.injEq, Addr.mk.injEq, and_true] at e'
 obtain ⟨rfl, rfl⟩ := e'
 obtain ⟨yb, yc', hyv, -, hyc⟩ := RO.cell (f := tkCells) (fun _ => rfl) Y8.out (i := 0) (by rw [HLV.out]; simp)
 have hyk := hyc 0 (by omega)
 have hyx : ∀ hh, (leafs (plT 0 t))[0]'hh = x := fun hh => by simp [HLV.out]
 rw [hyx] at hyk
 simp only [tkCells, List.getElem?_cons_zero, Nat.zero_mul, Nat.zero_add] at hyk
 simp only [Value.slice.injEq] at hyv
 obtain ⟨rfl, -, rfl⟩ := hyv
 clear hyc hyx
 obtain ⟨hfb, fla, flc, hfc1, hfr1⟩ := HLK.out _ W8.out.bel
 obtain ⟨kd, hkd⟩ : ∃ kd, x.t.kind = kd := ⟨_, rfl⟩
 have HIN1 : Hid (inL ((listsU F).getD m []) kd = true) := by rw [<- hkd]; exact inL_of (HTS.out F HF.out)
 have HIN2 : Hid (inL (L.getD m []) kd = true) := by rw [<- hkd]; exact inL_of (HIN.out F HF.out)
 rw [hkd] at hyk
 obtain ⟨l1, hl1⟩ : ∃ l1, (listsU F).getD m [] = l1 := ⟨_, rfl⟩
 rw [hl1] at hc1 hr1 HIN1
 have hs1 : l1.length <= 140737488355328 := by rw [<- hl1]; exact Nat.le_trans listsU_short (by decide)
 have IN1 : Hid (∀ w', Below w8.heap.size w8 w' -> Calls Try.prog 15 #[.slice ea l1.length ec, .int .i64 kd] w' fun e w'' => e = .returned (.bool true) /\ Below w8.heap.size w8 w'') := fun w' hb => by
  have := in_S ea ec l1 kd w' (hr1.later hb) hs1
  rw [HIN1.out] at this
  exact this.mono fun e w'' ⟨q1, q2⟩ => ⟨q1, hb.trans (q2.mono hb.size)⟩
 obtain ⟨l2, hl2⟩ : ∃ l2, L.getD m [] = l2 := ⟨_, rfl⟩
 rw [hl2] at hfc1 hfr1 HIN2 HLM
 have IN2 : Hid (∀ w', Below w8.heap.size w8 w' -> Calls Try.prog 15 #[.slice fla l2.length flc, .int .i64 kd] w' fun e w'' => e = .returned (.bool true) /\ Below w8.heap.size w8 w'') := fun w' hb => by
  have := in_S fla flc l2 kd w' (hfr1.later hb) HLM.out
  rw [HIN2.out] at this
  exact this.mono fun e w'' ⟨q1, q2⟩ => ⟨q1, hb.trans (q2.mono hb.size)⟩
 have hyb : yb < w8.heap.size := Y8.out.lt yb rfl
 rw [Nat.zero_add] at hc1
 have KS : Hid (∀ w', Below w8.heap.size w8 w' -> w'.cell? ⟨mb, m, none⟩ = some (.slice ea l1.length ec) /\ w'.cell? ⟨yb, 0, none⟩ = some (.int .i64 kd) /\ w'.cell? ⟨fab, fao + m, none⟩ = some (.slice fla l2.length flc)) := fun w' hb => ⟨(hb.cell (p := ⟨mb, m, none⟩) hmb).trans hc1, (hb.cell (p := ⟨yb, 0, none⟩) hyb).trans hyk, (hb.cell (p := ⟨fab, fao + m, none⟩) hfb).trans hfc1⟩
 have HB8 : Hid (Below w8.heap.size w8 w8.drew) := (Below.refl _ _).drew
 clear hc1 hyk hr1 hmb hyb hs1 hl1 hkd HIN1 hfc1 hfr1 hfb hl2 HIN2
 refine wp_region_q (C := fun w' => Below w8.heap.size w8 w') (by kernel_rfl) (by kernel_rfl) HB8.out ?_
 refine qt_yes (v := ?_) (by rfl) ?_ ?_
 rotate_left
 ·(intro w hSw; obtain ⟨k1, k2, k3⟩ := KS.out w hSw; clear hSw; go_simp; with_reducible rfl)
 (try simp only [Act.put, lsA, lsZ, lsN])
 refine qt_yes (v := ?_) (by rfl) ?_ ?_
 rotate_left
 ·(intro w hSw; obtain ⟨k1, k2, k3⟩ := KS.out w hSw; clear hSw; go_simp; with_reducible rfl)
 (try simp only [Act.put, lsA, lsZ, lsN])
 refine qt_yes (v := ?_) (by rfl) ?_ ?_
 rotate_left
 ·(intro w hSw; obtain ⟨k1, k2, k3⟩ := KS.out w hSw; clear hSw; go_simp; with_reducible rfl)
 (try simp only [Act.put, lsA, lsZ, lsN])
 refine qt_yes (v := ?_) (by rfl) ?_ ?_
 rotate_left
 ·(intro w hSw; obtain ⟨k1, k2, k3⟩ := KS.out w hSw; clear hSw; go_simp; with_reducible rfl)
 (try simp only [Act.put, lsA, lsZ, lsN])
 refine qt_yes (v := ?_) (by rfl) ?_ ?_
 rotate_left
 ·(intro w hSw; obtain ⟨k1, k2, k3⟩ := KS.out w hSw; clear hSw; go_simp; with_reducible rfl)
 (try simp only [Act.put, lsA, lsZ, lsN])
 refine qt_yes (v := ?_) (by rfl) ?_ ?_
 rotate_left
 ·(intro w hSw; obtain ⟨k1, k2, k3⟩ := KS.out w hSw; clear hSw; go_simp; with_reducible rfl)
 (try simp only [Act.put, lsA, lsZ, lsN])
 refine qt_yes (v := ?_) (by rfl) ?_ ?_
 rotate_left
 ·(intro w hSw; obtain ⟨k1, k2, k3⟩ := KS.out w hSw; clear hSw; go_simp; with_reducible rfl)
 (try simp only [Act.put, lsA, lsZ, lsN])
 refine qt_yes (v := ?_) (by rfl) ?_ ?_
 rotate_left
 ·(intro w hSw; obtain ⟨k1, k2, k3⟩ := KS.out w hSw; clear hSw; go_simp; with_reducible rfl)
 (try simp only [Act.put, lsA, lsZ, lsN])
 refine qt_call (v := .bool true) 15 #[.slice ea l1.length ec, .int .i64 kd] (by rfl) (fun w _ => run_inT (v0 := .slice ea l1.length ec) (v1 := .int .i64 kd) (by rfl) (by rfl) (by rfl) w) IN1.out ?_
 (try simp only [Act.put, lsA, lsZ, lsN])
 refine qt_yes (v := ?_) (by rfl) ?_ ?_
 rotate_left
 ·(intro w hSw; obtain ⟨k1, k2, k3⟩ := KS.out w hSw; clear hSw; go_simp; with_reducible rfl)
 (try simp only [Act.put, lsA, lsZ, lsN])
 refine qt_yes (v := ?_) (by rfl) ?_ ?_
 rotate_left
 ·(intro w hSw; obtain ⟨k1, k2, k3⟩ := KS.out w hSw; clear hSw; go_simp; with_reducible rfl)
 (try simp only [Act.put, lsA, lsZ, lsN])
 refine qt_yes (v := ?_) (by rfl) ?_ ?_
 rotate_left
 ·(intro w hSw; obtain ⟨k1, k2, k3⟩ := KS.out w hSw; clear hSw; go_simp; with_reducible rfl)
 (try simp only [Act.put, lsA, lsZ, lsN])
 refine qt_yes (v := ?_) (by rfl) ?_ ?_
 rotate_left
 ·(intro w hSw; obtain ⟨k1, k2, k3⟩ := KS.out w hSw; clear hSw; go_simp; with_reducible rfl)
 (try simp only [Act.put, lsA, lsZ, lsN])
 refine qt_yes (v := ?_) (by rfl) ?_ ?_
 rotate_left
 ·(intro w hSw; obtain ⟨k1, k2, k3⟩ := KS.out w hSw; clear hSw; go_simp; with_reducible rfl)
 (try simp only [Act.put, lsA, lsZ, lsN])
 refine qt_yes (v := ?_) (by rfl) ?_ ?_
 rotate_left
 ·(intro w hSw; obtain ⟨k1, k2, k3⟩ := KS.out w hSw; clear hSw; go_simp; with_reducible rfl)
 (try simp only [Act.put, lsA, lsZ, lsN])
 refine qt_yes (v := ?_) (by rfl) ?_ ?_
 rotate_left
 ·(intro w hSw; obtain ⟨k1, k2, k3⟩ := KS.out w hSw; clear hSw; go_simp; with_reducible rfl)
 (try simp only [Act.put, lsA, lsZ, lsN])
 refine qt_yes (v := ?_) (by rfl) ?_ ?_
 rotate_left
 ·(intro w hSw; obtain ⟨k1, k2, k3⟩ := KS.out w hSw; clear hSw; go_simp; with_reducible rfl)
 (try simp only [Act.put, lsA, lsZ, lsN])
 refine qt_yes (v := ?_) (by rfl) ?_ ?_
 rotate_left
 ·(intro w hSw; obtain ⟨k1, k2, k3⟩ := KS.out w hSw; clear hSw; go_simp; with_reducible rfl)
 (try simp only [Act.put, lsA, lsZ, lsN])
 refine qt_yes (v := ?_) (by rfl) ?_ ?_
 rotate_left
 ·(intro w hSw; obtain ⟨k1, k2, k3⟩ := KS.out w hSw; clear hSw; go_simp; with_reducible rfl)
 (try simp only [Act.put, lsA, lsZ, lsN])
 refine qt_yes (v := ?_) (by rfl) ?_ ?_
 rotate_left
 ·(intro w hSw; obtain ⟨k1, k2, k3⟩ := KS.out w hSw; clear hSw; go_simp; with_reducible rfl)
 (try simp only [Act.put, lsA, lsZ, lsN])
 refine qt_yes (v := ?_) (by rfl) ?_ ?_
 rotate_left
 ·(intro w hSw; obtain ⟨k1, k2, k3⟩ := KS.out w hSw; clear hSw; go_simp; with_reducible rfl)
 (try simp only [Act.put, lsA, lsZ, lsN])
 refine qt_yes (v := ?_) (by rfl) ?_ ?_
 rotate_left
 ·(intro w hSw; obtain ⟨k1, k2, k3⟩ := KS.out w hSw; clear hSw; go_simp; with_reducible rfl)
 (try simp only [Act.put, lsA, lsZ, lsN])
 refine qt_yes (v := ?_) (by rfl) ?_ ?_
 rotate_left
 ·(intro w hSw; obtain ⟨k1, k2, k3⟩ := KS.out w hSw; clear hSw; go_simp; with_reducible rfl)
 (try simp only [Act.put, lsA, lsZ, lsN])
 refine qt_yes (v := ?_) (by rfl) ?_ ?_
 rotate_left
 ·(intro w hSw; obtain ⟨k1, k2, k3⟩ := KS.out w hSw; clear hSw; go_simp; with_reducible rfl)
 (try simp only [Act.put, lsA, lsZ, lsN])
 refine qt_yes (v := ?_) (by rfl) ?_ ?_
 rotate_left
 ·(intro w hSw; obtain ⟨k1, k2, k3⟩ := KS.out w hSw; clear hSw; go_simp; with_reducible rfl)
 (try simp only [Act.put, lsA, lsZ, lsN])
 refine qt_call (v := .bool true) 15 #[.slice fla l2.length flc, .int .i64 kd] (by rfl) (fun w _ => run_inT (v0 := .slice fla l2.length flc) (v1 := .int .i64 kd) (by rfl) (by rfl) (by rfl) w) IN2.out ?_
 (try simp only [Act.put, lsA, lsZ, lsN])
 refine qt_yes (v := ?_) (by rfl) ?_ ?_
 rotate_left
 ·(intro w hSw; obtain ⟨k1, k2, k3⟩ := KS.out w hSw; clear hSw; go_simp; with_reducible rfl)
 (try simp only [Act.put, lsA, lsZ, lsN])
 refine qt_yes (v := ?_) (by rfl) ?_ ?_
 rotate_left
 ·(intro w hSw; obtain ⟨k1, k2, k3⟩ := KS.out w hSw; clear hSw; go_simp; with_reducible rfl)
 (try simp only [Act.put, lsA, lsZ, lsN])
 refine qt_yes (v := ?_) (by rfl) ?_ ?_
 rotate_left
 ·(intro w hSw; obtain ⟨k1, k2, k3⟩ := KS.out w hSw; clear hSw; go_simp; with_reducible rfl)
 (try simp only [Act.put, lsA, lsZ, lsN])
 refine qt_nil ?_
 intro w9 hw9
 have HW9 : Hid (Below w.heap.size w w9) := W8.out.bel.trans (hw9.mono W8.out.bel.size)
 clear hw9 KS IN1 IN2
 go_wp2
 go_ret
 exact ⟨rfl, HW9.out⟩
theorem num_T (x : Int) (w : World) : Calls Try.prog 8 #[.int .i64 x] w fun e w' => e = .returned (.int .i64 x) /\ w' = w := by
 go_enter Try.func8, Try.ntmps8
 go_wp2
 go_ret
 exact ⟨rfl, rfl⟩
set_option linter.unusedSimpArgs false in
theorem trees_no (g : GV) (t : TV) (na : Option Addr) (nc nn : Nat) (fa : Option Addr) (fc fn : Nat) (w : World) (h : GAt 140737488355328 w g) (hpc : g.ps.length <= g.pc) (er at_ : Int) (hE : checkG g (checkF g.ts g.ns) = (er, at_)) (h0 : er ≠ 0) :
  Calls Try.prog 3 #[g.val, t.val, .slice na nn nc, .slice fa fn fc] w fun e w' => e = .returned (.bool true) /\ Below w.heap.size w w' := by
 have X0 : Hid (Below w.heap.size w ((w.alloc (gBox g)).alloc (tBox t)) /\ ((w.alloc (gBox g)).alloc (tBox t)).heap[w.heap.size]? = some (gBox g) /\ ((w.alloc (gBox g)).alloc (tBox t)).heap[w.heap.size + 1]? = some (tBox t)) := two_gt w g t
 have NC : Hid (∀ w', Below w.heap.size w w' -> Calls Try.prog 5 #[g.val] w' fun e w'' => e = .returned (.tuple #[.slice none 0 0, .int .i64 er]) /\ Below w'.heap.size w' w'') := fun w' hb => nullable_no g w' (h.later hb) hpc er at_ hE h0
 have FC : Hid (∀ w', Below w.heap.size w w' -> Calls Try.prog 6 #[g.val] w' fun e w'' => e = .returned (.tuple #[.slice none 0 0, .int .i64 er]) /\ Below w'.heap.size w' w'') := fun w' hb => first_no g w' (h.later hb) hpc er at_ hE h0
 have MC : Hid (∀ w', Below w.heap.size w w' -> Calls Try.prog 7 #[g.val] w' fun e w'' => e = .returned (.int .i64 er) /\ Below w'.heap.size w' w'') := fun w' hb => by
  have := refmay_G g w' (h.later hb)
  rwa [hE] at this
 have t1 : (er != 0) = true := by simpa using h0
 have t2 : (er == er) = true := by simp
 clear h hE h0
 go_enter Try.func3, Try.ntmps3
 go_wp2_with (first
  | (go_at_call 4; refine (works_S _).mono ?_; rintro e w1 ⟨rfl, b1⟩; have B1 : Hid (Below w.heap.size w w1 /\ w1.heap[w.heap.size]? = some (gBox g)) := ⟨X0.out.1.trans (b1.mono X0.out.1.size), tbox_on X0.out.2.1 b1⟩; clear b1; obtain ⟨x0, x1, x2, x3, x4⟩ := gb_cells B1.out.2)
  | (go_at_call 5; refine (NC.out _ B1.out.1).mono ?_; rintro e w2 ⟨rfl, b2⟩; have B2 : Hid (Below w.heap.size w w2 /\ w2.heap[w.heap.size]? = some (gBox g)) := ⟨B1.out.1.trans (b2.mono B1.out.1.size), tbox_on B1.out.2 b2⟩; clear b2 x0 x1 x2 x3 x4; obtain ⟨x0, x1, x2, x3, x4⟩ := gb_cells B2.out.2)
  | (go_at_call 6; refine (FC.out _ B2.out.1).mono ?_; rintro e w3 ⟨rfl, b3⟩; have B3 : Hid (Below w.heap.size w w3 /\ w3.heap[w.heap.size]? = some (gBox g)) := ⟨B2.out.1.trans (b3.mono B2.out.1.size), tbox_on B2.out.2 b3⟩; clear b3 x0 x1 x2 x3 x4; obtain ⟨x0, x1, x2, x3, x4⟩ := gb_cells B3.out.2)
  | (go_at_call 7; refine (MC.out _ B3.out.1).mono ?_; rintro e w5 ⟨rfl, b5⟩; have B5 : Hid (Below w.heap.size w w5 /\ w5.heap[w.heap.size]? = some (gBox g)) := ⟨B3.out.1.trans (b5.mono B3.out.1.size), tbox_on B3.out.2 b5⟩; clear b5 x0 x1 x2 x3 x4))
 have KS : Hid (∀ w', (Below w.heap.size w w' /\ w'.heap[w.heap.size]? = some (gBox g)) -> w'.cell? ⟨w.heap.size, 0, none⟩ = some (.slice g.ta g.ts.length g.tc) /\ w'.cell? ⟨w.heap.size, 1, none⟩ = some (.slice g.na g.ns.length g.nc) /\ w'.cell? ⟨w.heap.size, 2, none⟩ = some (.int .i64 g.start) /\ w'.cell? ⟨w.heap.size, 3, none⟩ = some (.slice g.pa g.ps.length g.pc) /\ w'.cell? ⟨w.heap.size, 4, none⟩ = some (.slice g.la g.ls.length g.lc)) := fun w' hw => gb_cells hw.2
 have NM : Hid (∀ w', (Below w.heap.size w w' /\ w'.heap[w.heap.size]? = some (gBox g)) -> Calls Try.prog 8 #[.int .i64 er] w' fun e w'' => e = .returned (.int .i64 er) /\ (Below w.heap.size w w'' /\ w''.heap[w.heap.size]? = some (gBox g))) := fun w' hw => (num_T er w').mono fun e w'' ⟨q1, q2⟩ => ⟨q1, by rw [q2]; exact hw⟩
 have MY : Hid (∀ w', (Below w.heap.size w w' /\ w'.heap[w.heap.size]? = some (gBox g)) -> Calls Try.prog 7 #[g.val] w' fun e w'' => e = .returned (.int .i64 er) /\ (Below w.heap.size w w'' /\ w''.heap[w.heap.size]? = some (gBox g))) := fun w' hw => (MC.out w' hw.1).mono fun e w'' ⟨q1, q2⟩ => ⟨q1, hw.1.trans (q2.mono hw.1.size), tbox_on hw.2 q2⟩
 have B6 : Hid (Below w.heap.size w w5.drew /\ w5.drew.heap[w.heap.size]? = some (gBox g)) := ⟨B5.out.1.drew, B5.out.2⟩
 refine wp_region_q (C := fun w' => Below w.heap.size w w' /\ w'.heap[w.heap.size]? = some (gBox g)) (by kernel_rfl) (by kernel_rfl) B6.out ?_
 refine qt_yes (v := ?_) (by rfl) ?_ ?_
 rotate_left
 ·(intro w hSw; obtain ⟨k0, k1, k2, k3, k4⟩ := KS.out w hSw; clear hSw; go_simp; with_reducible rfl)
 (try simp only [Act.put, lsA, lsZ, lsN])
 refine qt_yes (v := ?_) (by rfl) ?_ ?_
 rotate_left
 ·(intro w hSw; obtain ⟨k0, k1, k2, k3, k4⟩ := KS.out w hSw; clear hSw; go_simp; with_reducible rfl)
 (try simp only [Act.put, lsA, lsZ, lsN])
 refine qt_yes (v := ?_) (by rfl) ?_ ?_
 rotate_left
 ·(intro w hSw; obtain ⟨k0, k1, k2, k3, k4⟩ := KS.out w hSw; clear hSw; go_simp; with_reducible rfl)
 (try simp only [Act.put, lsA, lsZ, lsN])
 refine qt_yes (v := ?_) (by rfl) ?_ ?_
 rotate_left
 ·(intro w hSw; obtain ⟨k0, k1, k2, k3, k4⟩ := KS.out w hSw; clear hSw; go_simp; with_reducible rfl)
 (try simp only [Act.put, lsA, lsZ, lsN])
 refine qt_yes (v := ?_) (by rfl) ?_ ?_
 rotate_left
 ·(intro w hSw; obtain ⟨k0, k1, k2, k3, k4⟩ := KS.out w hSw; clear hSw; go_simp; with_reducible rfl)
 (try simp only [Act.put, lsA, lsZ, lsN])
 refine qt_call (v := .int .i64 er) 8 #[.int .i64 er] (by rfl) (fun w _ => run_numT (v0 := .int .i64 er) (by rfl) (by rfl) w) NM.out ?_
 (try simp only [Act.put, lsA, lsZ, lsN])
 refine qt_yes (v := ?_) (by rfl) ?_ ?_
 rotate_left
 ·(intro w hSw; obtain ⟨k0, k1, k2, k3, k4⟩ := KS.out w hSw; clear hSw; go_simp; with_reducible rfl)
 (try simp only [Act.put, lsA, lsZ, lsN])
 refine qt_call (v := .int .i64 er) 7 #[g.val] (by rfl) (fun w _ => run_mayT (v0 := g.val) (by rfl) (by rfl) w) MY.out ?_
 (try simp only [Act.put, lsA, lsZ, lsN])
 refine qt_yes (v := ?_) (by rfl) ?_ ?_
 rotate_left
 ·(intro w hSw; obtain ⟨k0, k1, k2, k3, k4⟩ := KS.out w hSw; clear hSw; go_simp; with_reducible rfl)
 (try simp only [Act.put, lsA, lsZ, lsN])
 refine qt_yes (v := ?_) (by rfl) ?_ ?_
 rotate_left
 ·(intro w hSw; obtain ⟨k0, k1, k2, k3, k4⟩ := KS.out w hSw; clear hSw; go_simp; with_reducible rfl)
 (try simp only [Act.put, lsA, lsZ, lsN])
 refine qt_yes (v := ?_) (by rfl) ?_ ?_
 rotate_left
 ·(intro w hSw; obtain ⟨k0, k1, k2, k3, k4⟩ := KS.out w hSw; clear hSw; go_simp; with_reducible rfl)
 (try simp only [Act.put, lsA, lsZ, lsN])
 refine qt_nil ?_
 intro w9 hw9
 have HW9 : Hid (Below w.heap.size w w9) := hw9.1
 clear hw9 KS NM MY
 go_wp2
 go_ret
 exact ⟨rfl, HW9.out⟩
theorem trees_walk (g : GV) (t : TV) (na : Option Addr) (nc : Nat) (N : List Bool) (fa : Option Addr) (fc : Nat) (L : List (List Int)) (w : World) (h : GAt 140737488355328 w g) (hpc : g.ps.length <= g.pc) (ht : TAt w t) (hsz : (plT 0 t).length <= 1048576) (hN : BRow w na N) (hL : LsRow w fa L) (hll : ∀ l ∈ L, l.length <= 140737488355328)  :
  Calls Try.prog 3 #[g.val, t.val, .slice na N.length nc, .slice fa L.length fc] w fun e w' => e = .returned (.bool true) /\ Below w.heap.size w w' := by
 by_cases h0 : (checkG g (checkF g.ts g.ns)).1 = 0
 ·have hE : checkG g (checkF g.ts g.ns) = (0, (checkG g (checkF g.ts g.ns)).2) := by rw [<- h0]
  generalize (checkG g (checkF g.ts g.ns)).2 = at_ at hE
  by_cases hb : (runU g (ckT g (0, 0) false t) 0).1 = 0
  ·by_cases hneg : t.prod < 0
   ·exact trees_leaf g t na nc N fa fc L w h hpc ht hsz hN hL hll at_ hE hb hneg
   ·have ok : OkC g := OkC.of (by rw [hE])
    have hrt : RT g t := RT.of t _ _ (runU_zero _ _ hb)
    have hpr := hrt.prodB (by omega)
    obtain ⟨jn, hjn⟩ : ∃ jn : Nat, t.prod = (jn : Int) := ⟨t.prod.toNat, by omega⟩
    have hjl : jn < g.ps.length := by omega
    have hlf := (ok.fg h).gp.left _ (psD hjl)
    obtain ⟨m, hm⟩ : ∃ m : Nat, (g.ps.getD jn .none).left = (m : Int) := ⟨(g.ps.getD jn .none).left.toNat, by omega⟩
    have hml : m < g.ns.length := by omega
    cases hlv : leafs (plT 0 t) with
    | nil =>
     by_cases hi0 : (chkNU g N 0).1 = 0
     ·exact trees_none0 g t na nc N fa fc L w h hpc ht hsz hN hL hll at_ hE hb jn m hjn hjl hm hml hlv hi0
     ·exact trees_none1 g t na nc N fa fc L w h hpc ht hsz hN hL hll at_ hE hb jn m hjn hjl hm hml hlv hi0
    | cons x r =>
     by_cases hi0 : (chkNU g N 0).1 = 0
     ·by_cases hj0 : (chkFU g N L 0).1 = 0
      ·exact trees_some2 g t na nc N fa fc L w h hpc ht hsz hN hL hll at_ hE hb jn m hjn hjl hm hml x r hlv hi0 hj0
      ·exact trees_some1 g t na nc N fa fc L w h hpc ht hsz hN hL hll at_ hE hb jn m hjn hjl hm hml x r hlv hi0 hj0
     ·exact trees_some0 g t na nc N fa fc L w h hpc ht hsz hN hL hll at_ hE hb jn m hjn hjl hm hml x r hlv hi0
  ·exact trees_bad g t na nc N fa fc L w h hpc ht hsz hN hL hll at_ hE hb
 ·exact trees_no g t na nc N.length fa fc L.length w h hpc _ _ rfl h0
end Go.Proofs.Ytfgdpmcpjpceoaa
