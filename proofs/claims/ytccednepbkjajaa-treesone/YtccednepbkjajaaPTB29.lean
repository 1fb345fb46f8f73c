import Derived.Test.YtccednepbkjajaaPTB26ToTB28
import Derived.Test.YtccednepbkjajaaPTCn
import Derived.Test.YtccednepbkjajaaPTS1ToTS3
namespace Go.Proofs.Ytccednepbkjajaa
set_option linter.unusedVariables false
open Go.RowKit
structure TOS (w : World) (g : GV) (b : Nat) (T : TV) (w' : World) : Prop where
 bel : Below w.heap.size w w'
 gb : w'.heap[w.heap.size]? = some (gBox g)
 tb : w'.heap[b]? = some (tBox T)
 ta : TAt w' T
theorem TOS.later {w : World} {g : GV} {b : Nat} {T : TV} {w' w'' : World} (h : TOS w g b T w') (hb : Below w'.heap.size w' w'') : TOS w g b T w'' := ⟨h.bel.trans (hb.mono h.bel.size), (hb.block _ (lt_of_block h.gb)).trans h.gb, (hb.block _ (lt_of_block h.tb)).trans h.tb, h.ta.later hb⟩
theorem ilo_row {w : World} {vo : Value} {l : List Int} (h : ILo w vo l) : ∃ a c, vo = .slice a l.length c /\ InRow w a l := by
 obtain ⟨a, c, rfl, -⟩ := RO.len h
 exact ⟨a, c, rfl, (ILo.row h).2⟩
theorem tkt_row {w : World} {vo : Value} {l : List TV} (h : TKt w vo l) : ∃ a c, vo = .slice a (l.map tkV).length c /\ TkRow w a (l.map tkV) := by
 obtain ⟨a, c, rfl, -⟩ := RO.len h
 exact ⟨a, c, by rw [List.length_map], (TKt.row h).2⟩
set_option maxRecDepth 100000 in
set_option maxHeartbeats 2000000 in
theorem sameints_g8 (ao bo : Option Addr) (n m ca cb : Nat) (ss : List Int) (w : World) (hn : n = ss.length) (hm : m = ss.length) (hl : ss.length <= 140737488355328) (hr : InRow w ao ss) (hs : InRow w bo ss) :
  Calls Try.prog 15 #[.slice ao n ca, .slice bo m cb] w fun e w' => e = .returned (.bool true) /\ ∃ d, w' = w.drewN d := by
 subst hn hm
 have hb : ((ss.length : Int) != ss.length) = false := by simp
 go_enter Try.func15, Try.ntmps15
 go_wp2
 go_loopw [5] (fun i wr => ∃ k d : Nat, k <= ss.length /\ i = .int .i64 k /\ wr = w.drewN d) (fun i _ => ss.length - (intOf i).toNat)
 case atStart => exact ⟨0, 0, Nat.zero_le _, rfl, rfl⟩
 case round =>
  obtain ⟨k, d, hk, rfl, rfl⟩ := hrel
  by_cases hlt : k < ss.length
  ·obtain ⟨b, off, rfl, _, hc⟩ := hr (by intro h; subst h; simp at hlt)
   obtain ⟨b2, off2, rfl, _, hc2⟩ := hs (by intro h; subst h; simp at hlt)
   have h1 := hc k hlt
   have h2 := hc2 k hlt
   clear hc hc2 hr hs
   generalize ss.getD k 0 = x at *
   have het : (x != x) = false := by simp
   go_wp2
   go_quiet (fail)
   go_wp2
   go_roundw
   case rel => exact ⟨k + 1, _, by omega, by go_num, rfl⟩
   case measure => simp [intOf]; omega
  ·go_wp2
   go_ret
   exact ⟨rfl, _, rfl⟩
theorem fromU_some {cp : Int × Int} {u : Option TV × Int × Int} {t : TV} {e1 e2 : Int} (h : fromU cp u = (some t, e1, e2)) : cp.1 = 0 /\ u = (some t, e1, e2) := by
 unfold fromU at h
 by_cases h0 : cp.1 = 0
 ·rw [if_neg (by simpa using h0)] at h
  exact ⟨h0, h⟩
 ·rw [if_pos h0] at h
  cases h
theorem fromU_none {cp : Int × Int} {u : Option TV × Int × Int} {e1 e2 : Int} (hu : ∀ f1 f2, cp.1 = 0 -> u = (none, f1, f2) -> ¬ f1 = 0) (h : fromU cp u = (none, e1, e2)) : ¬ e1 = 0 := by
 unfold fromU at h
 by_cases h0 : cp.1 = 0
 ·rw [if_neg (by simpa using h0)] at h
  exact hu _ _ h0 h
 ·rw [if_pos h0] at h
  cases h
  exact h0
theorem mir_ne {g : GV} {l : List Int} {L : List (Int × ByteArray)} {e1 e2 : Int} (h : mirU g l L = (none, e1, e2)) : ¬ e1 = 0 := by
 unfold mirU at h
 split at h
 ·cases h
 ·cases h; decide
theorem okc_rev {g : GV} {at_ : Int} (h : checkG g (checkF g.ts g.ns) = (0, at_)) : OkC g.rev := OkC.of (by
 have e : checkF g.rev.ts g.rev.ns = checkF g.ts g.ns := rfl
 rw [e, check_rev8, h])
theorem samG (g : GV) : SameG g g := ⟨rfl, rfl, rfl, rfl, rfl⟩
theorem ans_of {N : Nat} {u : Option TV × Int × Int} {e : Ending} {w' : World} (h : ansE N u e w') : ∃ T, samV T (anT u).1 /\ TAt w' T /\ e = .returned (.tuple #[T.val, .int .i64 (anT u).2.1, .int .i64 (anT u).2.2]) := by
 obtain ⟨T, a, b, c⟩ := ansE_T h
 exact ⟨T, a, b.ta, c⟩
theorem from_left {g : GV} {l : List Int} {L : List (Int × ByteArray)} {er at_ : Int} (hE : checkG g (checkF g.ts g.ns) = (er, at_)) (h0 : (anT (fromU (cpU er g.ps.length l) (deriveU g l L))).2.1 = 0) : er = 0 /\ ∀ T, samV T (anT (fromU (cpU er g.ps.length l) (deriveU g l L))).1 -> GdT g T /\ nds T = l /\ lvs T = L := by
 obtain ⟨u, hu⟩ : ∃ u, fromU (cpU er g.ps.length l) (deriveU g l L) = u := ⟨_, rfl⟩
 rw [hu] at h0 ⊢
 obtain ⟨ot, e1, e2⟩ := u
 cases ot with
 | none => exact absurd h0 (fromU_none (fun f1 f2 hc hf => derive_ne (cp_ok hc).2.2.1 hf) hu)
 | some t =>
  obtain ⟨hc, hd⟩ := fromU_some hu
  obtain ⟨he, hne, hl, -⟩ := cp_ok hc
  subst he
  obtain ⟨a, b, c⟩ := derive_ok (OkC.of (by rw [hE])) hl hd
  refine ⟨rfl, fun T hs => ?_⟩
  have hs : samV T t := hs
  exact ⟨run_gd (by rw [run_same (samG g) (samV_symm _ _ hs), gd_run a]), (nds_sam _ _ hs).trans b, (lvs_sam _ _ hs).trans c⟩
theorem from_right {g : GV} {l : List Int} {L : List (Int × ByteArray)} {er at_ : Int} (hE : checkG g (checkF g.ts g.ns) = (er, at_)) (h0 : (anT (fromU (cpU er g.ps.length l) (mirU g l L))).2.1 = 0) : er = 0 /\ ∀ T, samV T (anT (fromU (cpU er g.ps.length l) (mirU g l L))).1 -> GdT g T /\ ndr T = l /\ lvs T = L := by
 obtain ⟨u, hu⟩ : ∃ u, fromU (cpU er g.ps.length l) (mirU g l L) = u := ⟨_, rfl⟩
 rw [hu] at h0 ⊢
 obtain ⟨ot, e1, e2⟩ := u
 cases ot with
 | none => exact absurd h0 (fromU_none (fun f1 f2 hc hf => mir_ne hf) hu)
 | some t =>
  obtain ⟨hc, hd⟩ := fromU_some hu
  obtain ⟨he, hne, hl, -⟩ := cp_ok hc
  subst he
  obtain ⟨a, b, c⟩ := mir_ok (okc_rev hE) hl hd
  refine ⟨rfl, fun T hs => ?_⟩
  have hs : samV T t := hs
  exact ⟨run_gd (by rw [run_same (samG g) (samV_symm _ _ hs), gd_run a]), (ndr_sam _ _ hs).trans b, (lvs_sam _ _ hs).trans c⟩
set_option linter.unusedSimpArgs false in
set_option maxRecDepth 100000 in
set_option maxHeartbeats 8000000 in
theorem treesOne_walk (g : GV) (pa wa : Option Addr) (pc wc : Nat) (l : List Int) (L : List (Int × ByteArray)) (w : World) (hg : GAt 1048576 w g) (hpc : g.ps.length <= g.pc) (hli : InRow w pa l) (hLi : TkRow w wa L) (hb : l.length <= 1048576) (hB : L.length <= 1048576) :
  Calls Try.prog 4 #[g.val, .slice pa l.length pc, .slice wa L.length wc] w fun e w' => e = .returned (.bool true) /\ Below w.heap.size w w' := by
 obtain ⟨er, at_, hE⟩ : ∃ er at_, checkG g (checkF g.ts g.ns) = (er, at_) := ⟨_, _, rfl⟩
 have hgg : GAt 140737488355328 w g := hg.mono (by omega)
 obtain ⟨t1, e1, f1, hA1⟩ : ∃ (a : TV) (b c : Int), anT (fromU (cpU er g.ps.length l) (deriveU g l L)) = (a, b, c) := ⟨_, _, _, rfl⟩
 obtain ⟨t2, e2, f2, hA2⟩ : ∃ (a : TV) (b c : Int), anT (fromU (cpU er g.ps.length l) (mirU g l L)) = (a, b, c) := ⟨_, _, _, rfl⟩
 have X0 : Hid (Below w.heap.size w (w.alloc (gBox g)) /\ (w.alloc (gBox g)).heap[w.heap.size]? = some (gBox g)) := ⟨below_alloc _ _, heap_alloc_new _ _⟩
 have CW : Hid (∀ w', Calls Try.prog 5 #[] w' fun e w'' => e = .returned (.bool true) /\ Below w'.heap.size w' w'') := fun w' => works_W w'
 have CF1 : Hid (∀ w', Below w.heap.size w w' -> Calls Try.prog 10 #[g.val, .slice pa l.length pc, .slice wa L.length wc] w' fun e w'' => ∃ T, e = .returned (.tuple #[T.val, .int .i64 e1, .int .i64 f1]) /\ samV T t1 /\ TAt w'' T /\ Below w'.heap.size w' w'') := fun w' h => (FromLeft_W (hgg.later h) hpc er at_ hE (hli.later h) (hLi.later h) hb hB).mono fun e w'' ⟨q1, q2⟩ => by
  obtain ⟨T, r1, r2, r3⟩ := ans_of q2
  rw [hA1] at r1 r3
  exact ⟨T, r3, r1, r2, q1⟩
 have CF2 : Hid (∀ w', Below w.heap.size w w' -> Calls Try.prog 11 #[g.val, .slice pa l.length pc, .slice wa L.length wc] w' fun e w'' => ∃ T, e = .returned (.tuple #[T.val, .int .i64 e2, .int .i64 f2]) /\ samV T t2 /\ TAt w'' T /\ Below w'.heap.size w' w'') := fun w' h => (FromRight_W (hgg.later h) hpc er at_ hE (hli.later h) (hLi.later h) hb hB).mono fun e w'' ⟨q1, q2⟩ => by
  obtain ⟨T, r1, r2, r3⟩ := ans_of q2
  rw [hA2] at r1 r3
  exact ⟨T, r3, r1, r2, q1⟩
 have CSI : Hid (∀ a c w', Below w.heap.size w w' -> InRow w' a l -> Calls Try.prog 15 #[.slice a l.length c, .slice pa l.length pc] w' fun e w'' => e = .returned (.bool true) /\ Below w'.heap.size w' w'') := fun a c w' h hr => (sameints_g8 a pa l.length l.length c pc l w' rfl rfl (by omega) hr (hli.later h)).mono fun e w'' ⟨q1, d, q2⟩ => ⟨q1, by rw [q2]; exact below_drewN (Below.refl _ _) _⟩
 have CST : Hid (∀ a c w', Below w.heap.size w w' -> TkRow w' a L -> Calls Try.prog 16 #[.slice a L.length c, .slice wa L.length wc] w' fun e w'' => e = .returned (.bool true) /\ Below w'.heap.size w' w'') := fun a c w' h hr => sameTokens_W a wa c wc L w' hr (hLi.later h) (by omega)
 have hsz : ∀ T, nds T = l -> lvs T = L -> szT T <= 100000000 := fun T h1 h2 => by rw [sz_nl, h1, h2]; omega
 have HK : ∀ (t0 : TV) (hk : ∀ T, samV T t0 -> GdT g T /\ szT T <= 100000000) (her : er = 0), ∀ T w', Below w.heap.size w w' -> TAt w' T -> samV T t0 -> Calls Try.prog 6 #[g.val, T.val] w' fun e w'' => e = .returned (.tuple #[.int .i64 0, .int .i64 (szT T : Int)]) /\ Below w'.heap.size w' w'' := fun t0 hk her T w' h1 h2 h3 => by
  obtain ⟨a, b⟩ := hk T h3
  have := Check_W g T w' (hgg.later h1) hpc er at_ hE h2 b
  rw [if_pos her, if_pos her, gd_run a] at this
  exact this
 have HY : ∀ (t0 : TV) (hk : ∀ T, samV T t0 -> szT T <= 100000000 /\ lvs T = L), ∀ T w', TAt w' T -> samV T t0 -> Calls Try.prog 9 #[T.val] w' fun e w'' => ∃ a c, e = .returned (.slice a L.length c) /\ TkRow w'' a L /\ Below w'.heap.size w' w'' := fun t0 hk T w' h1 h2 => by
  obtain ⟨a, b⟩ := hk T h2
  refine (yield_W T w' h1 a).mono fun e w'' ⟨vo, q1, q2, _, q4⟩ => ?_
  obtain ⟨ao, c, rfl, hr⟩ := tkt_row q2
  have e0 : (leafT (preT T)).map tkV = L := b
  rw [e0] at q1 hr
  exact ⟨ao, c, q1, hr, q4⟩
 have K1 : Hid (e1 = 0 -> er = 0 /\ ∀ T, samV T t1 -> GdT g T /\ nds T = l /\ lvs T = L) := by
  have := from_left hE (l := l) (L := L)
  rw [hA1] at this
  exact this
 have K2 : Hid (e2 = 0 -> er = 0 /\ ∀ T, samV T t2 -> GdT g T /\ ndr T = l /\ lvs T = L) := by
  have := from_right hE (l := l) (L := L)
  rw [hA2] at this
  exact this
 have hsz2 : ∀ T, ndr T = l -> lvs T = L -> szT T <= 100000000 := fun T h1 h2 => by rw [sz_nl, <- ndr_len, h1, h2]; omega
 have HL1 : Hid (e1 = 0 -> ∀ T w', TAt w' T -> samV T t1 -> Calls Try.prog 7 #[T.val] w' fun e w'' => ∃ a c, e = .returned (.slice a l.length c) /\ InRow w'' a l /\ Below w'.heap.size w' w'') := fun h0 T w' h1 h2 => by
  obtain ⟨a, b, c⟩ := (K1.out h0).2 T h2
  refine (left_W T w' h1 (hsz T b c)).mono fun e w'' ⟨vo, q1, q2, _, q4⟩ => ?_
  obtain ⟨ao, c', rfl, hr⟩ := ilo_row q2
  have e0 : nodP (preT T) = l := b
  rw [e0] at q1 hr
  exact ⟨ao, c', q1, hr, q4⟩
 have HL2 : Hid (e2 = 0 -> ∀ T w', TAt w' T -> samV T t2 -> Calls Try.prog 8 #[T.val] w' fun e w'' => ∃ a c, e = .returned (.slice a l.length c) /\ InRow w'' a l /\ Below w'.heap.size w' w'') := fun h0 T w' h1 h2 => by
  obtain ⟨a, b, c⟩ := (K2.out h0).2 T h2
  refine (right_W T w' h1 (hsz2 T b c)).mono fun e w'' ⟨vo, q1, q2, _, q4⟩ => ?_
  obtain ⟨ao, c', rfl, hr⟩ := ilo_row q2
  have e0 : nodP (posT T) = l := b
  rw [e0] at q1 hr
  exact ⟨ao, c', q1, hr, q4⟩
 have HK1 : Hid (e1 = 0 -> ∀ T w', Below w.heap.size w w' -> TAt w' T -> samV T t1 -> Calls Try.prog 6 #[g.val, T.val] w' fun e w'' => e = .returned (.tuple #[.int .i64 0, .int .i64 (szT T : Int)]) /\ Below w'.heap.size w' w'') := fun h0 => HK t1 (fun T hs => by obtain ⟨a, b, c⟩ := (K1.out h0).2 T hs; exact ⟨a, hsz T b c⟩) (K1.out h0).1
 have HK2 : Hid (e2 = 0 -> ∀ T w', Below w.heap.size w w' -> TAt w' T -> samV T t2 -> Calls Try.prog 6 #[g.val, T.val] w' fun e w'' => e = .returned (.tuple #[.int .i64 0, .int .i64 (szT T : Int)]) /\ Below w'.heap.size w' w'') := fun h0 => HK t2 (fun T hs => by obtain ⟨a, b, c⟩ := (K2.out h0).2 T hs; exact ⟨a, hsz2 T b c⟩) (K2.out h0).1
 have HY1 : Hid (e1 = 0 -> ∀ T w', TAt w' T -> samV T t1 -> Calls Try.prog 9 #[T.val] w' fun e w'' => ∃ a c, e = .returned (.slice a L.length c) /\ TkRow w'' a L /\ Below w'.heap.size w' w'') := fun h0 => HY t1 fun T hs => by obtain ⟨a, b, c⟩ := (K1.out h0).2 T hs; exact ⟨hsz T b c, c⟩
 have HY2 : Hid (e2 = 0 -> ∀ T w', TAt w' T -> samV T t2 -> Calls Try.prog 9 #[T.val] w' fun e w'' => ∃ a c, e = .returned (.slice a L.length c) /\ TkRow w'' a L /\ Below w'.heap.size w' w'') := fun h0 => HY t2 fun T hs => by obtain ⟨a, b, c⟩ := (K2.out h0).2 T hs; exact ⟨hsz2 T b c, c⟩
 obtain ⟨x0, x1, x2, x3, x4⟩ := gbx_cells X0.out.2
 clear hg hpc hli hLi hb hB hE hgg hA1 hA2 hsz hsz2 HK HY K1 K2
 generalize l.length = ln at *
 generalize L.length = Ln at *
 by_cases h1 : e1 = 0
 ·have CK1 := HK1.out h1
  have CL1 := HL1.out h1
  have CY1 := HY1.out h1
  clear HK1 HL1 HY1
  have CK1 : Hid _ := CK1
  have CL1 : Hid _ := CL1
  have CY1 : Hid _ := CY1
  subst h1
  have q1 : ((0 : Int) == 0) = true := by decide
  have q1n : ((0 : Int) != 0) = false := by decide
  by_cases h2 : e2 = 0
  ·have CK2 : Hid _ := HK2.out h2
   have CR2 : Hid _ := HL2.out h2
   have CY2 : Hid _ := HY2.out h2
   clear HK2 HL2 HY2
   subst h2
   go_enter Try.func4, Try.ntmps4
   go_upto_region 4 with (first | (go_at_call 5; refine (CW.out _).mono ?_; rintro e v0 ⟨rfl, bb⟩; have B0 : Hid (Below w.heap.size w v0 /\ v0.heap[w.heap.size]? = some (gBox g)) := ⟨X0.out.1.trans (bb.mono X0.out.1.size), (bb.block _ (lt_of_block X0.out.2)).trans X0.out.2⟩; clear bb x0 x1 x2 x3 x4; obtain ⟨x0, x1, x2, x3, x4⟩ := gbx_cells B0.out.2) | (go_at_call 10; refine (CF1.out _ B0.out.1).mono ?_; rintro e v1 ⟨T1, rfl, sm, ta, bb⟩; have B1 : Hid (Below w.heap.size w v1 /\ v1.heap[w.heap.size]? = some (gBox g) /\ TAt v1 T1 /\ samV T1 t1) := ⟨B0.out.1.trans (bb.mono B0.out.1.size), (bb.block _ (lt_of_block B0.out.2)).trans B0.out.2, ta, sm⟩; clear sm ta bb x0 x1 x2 x3 x4))
   refine wp_world (fun w' => ∃ b, b = v1.heap.size /\ TOS w g b T1 w') ⟨_, rfl, B1.out.1.trans ((below_alloc _ _).mono B1.out.1.size), ((below_alloc _ _).block _ (lt_of_block B1.out.2.1)).trans B1.out.2.1, heap_alloc_new _ _, B1.out.2.2.1.later (below_alloc _ _)⟩ fun u1 hu => ?_
   obtain ⟨b1, hb1, hs⟩ := hu
   rw [<- hb1]
   have S1a : Hid (TOS w g b1 T1 u1) := hs
   clear hs hb1
   obtain ⟨x0, x1, x2, x3, x4⟩ := gbx_cells S1a.out.gb
   obtain ⟨y0, y1, y2, y3⟩ := tb_cells S1a.out.tb
   go_upto_region 8 with (first | (go_at_call 6; refine (CK1.out T1 _ S1a.out.bel S1a.out.ta B1.out.2.2.2).mono ?_; rintro e w1 ⟨rfl, bb⟩; have S1b : Hid _ := S1a.out.later bb; clear bb x0 x1 x2 x3 x4 y0 y1 y2 y3; obtain ⟨x0, x1, x2, x3, x4⟩ := gbx_cells S1b.out.gb; obtain ⟨y0, y1, y2, y3⟩ := tb_cells S1b.out.tb) | (go_at_call 7; refine (CL1.out T1 _ S1b.out.ta B1.out.2.2.2).mono ?_; rintro e w2 ⟨ai, ci, rfl, ri, bb⟩; have RI : Hid (InRow w2 ai l) := ri; clear ri; have S1c : Hid _ := S1b.out.later bb; clear bb x0 x1 x2 x3 x4 y0 y1 y2 y3; obtain ⟨x0, x1, x2, x3, x4⟩ := gbx_cells S1c.out.gb; obtain ⟨y0, y1, y2, y3⟩ := tb_cells S1c.out.tb) | (go_at_call 15; refine (CSI.out ai ci _ S1c.out.bel RI.out).mono ?_; rintro e w3 ⟨rfl, bb⟩; have S1d : Hid _ := S1c.out.later bb; clear bb x0 x1 x2 x3 x4 y0 y1 y2 y3; obtain ⟨x0, x1, x2, x3, x4⟩ := gbx_cells S1d.out.gb; obtain ⟨y0, y1, y2, y3⟩ := tb_cells S1d.out.tb) | (go_at_call 9; refine (CY1.out T1 _ S1d.out.ta B1.out.2.2.2).mono ?_; rintro e w4 ⟨ak, ck, rfl, rk, bb⟩; have RKk : Hid (TkRow w4 ak L) := rk; clear rk; have S1e : Hid _ := S1d.out.later bb; clear bb x0 x1 x2 x3 x4 y0 y1 y2 y3; obtain ⟨x0, x1, x2, x3, x4⟩ := gbx_cells S1e.out.gb; obtain ⟨y0, y1, y2, y3⟩ := tb_cells S1e.out.tb) | (go_at_call 16; refine (CST.out ak ck _ S1e.out.bel RKk.out).mono ?_; rintro e w5 ⟨rfl, bb⟩; have S1f : Hid _ := S1e.out.later bb; clear bb x0 x1 x2 x3 x4 y0 y1 y2 y3; obtain ⟨x0, x1, x2, x3, x4⟩ := gbx_cells S1f.out.gb; obtain ⟨y0, y1, y2, y3⟩ := tb_cells S1f.out.tb))
   have D0 : Hid (Below w.heap.size w _ /\ _) := ⟨S1f.out.bel, S1f.out.gb⟩
   clear x0 x1 x2 x3 x4 y0 y1 y2 y3
   obtain ⟨x0, x1, x2, x3, x4⟩ := gbx_cells D0.out.2
   go_upto_region 9 with (first | (go_at_call 11; refine (CF2.out _ D0.out.1).mono ?_; rintro e v2 ⟨T2, rfl, sm, ta, bb⟩; have B2 : Hid (Below w.heap.size w v2 /\ v2.heap[w.heap.size]? = some (gBox g) /\ TAt v2 T2 /\ samV T2 t2) := ⟨D0.out.1.trans (bb.mono D0.out.1.size), (bb.block _ (lt_of_block D0.out.2)).trans D0.out.2, ta, sm⟩; clear sm ta bb x0 x1 x2 x3 x4))
   refine wp_world (fun w' => ∃ b, b = v2.heap.size /\ TOS w g b T2 w') ⟨_, rfl, B2.out.1.trans ((below_alloc _ _).mono B2.out.1.size), ((below_alloc _ _).block _ (lt_of_block B2.out.2.1)).trans B2.out.2.1, heap_alloc_new _ _, B2.out.2.2.1.later (below_alloc _ _)⟩ fun u2 hu => ?_
   obtain ⟨b2, hb2, hs⟩ := hu
   rw [<- hb2]
   have S2a : Hid (TOS w g b2 T2 u2) := hs
   clear hs hb2
   obtain ⟨x0, x1, x2, x3, x4⟩ := gbx_cells S2a.out.gb
   obtain ⟨y0, y1, y2, y3⟩ := tb_cells S2a.out.tb
   go_wp2_with (first | (go_at_call 6; refine (CK2.out T2 _ S2a.out.bel S2a.out.ta B2.out.2.2.2).mono ?_; rintro e w1 ⟨rfl, bb⟩; have S2b : Hid _ := S2a.out.later bb; clear bb x0 x1 x2 x3 x4 y0 y1 y2 y3; obtain ⟨x0, x1, x2, x3, x4⟩ := gbx_cells S2b.out.gb; obtain ⟨y0, y1, y2, y3⟩ := tb_cells S2b.out.tb) | (go_at_call 8; refine (CR2.out T2 _ S2b.out.ta B2.out.2.2.2).mono ?_; rintro e w2 ⟨ai, ci, rfl, ri, bb⟩; have RI : Hid (InRow w2 ai l) := ri; clear ri; have S2c : Hid _ := S2b.out.later bb; clear bb x0 x1 x2 x3 x4 y0 y1 y2 y3; obtain ⟨x0, x1, x2, x3, x4⟩ := gbx_cells S2c.out.gb; obtain ⟨y0, y1, y2, y3⟩ := tb_cells S2c.out.tb) | (go_at_call 15; refine (CSI.out ai ci _ S2c.out.bel RI.out).mono ?_; rintro e w3 ⟨rfl, bb⟩; have S2d : Hid _ := S2c.out.later bb; clear bb x0 x1 x2 x3 x4 y0 y1 y2 y3; obtain ⟨x0, x1, x2, x3, x4⟩ := gbx_cells S2d.out.gb; obtain ⟨y0, y1, y2, y3⟩ := tb_cells S2d.out.tb) | (go_at_call 9; refine (CY2.out T2 _ S2d.out.ta B2.out.2.2.2).mono ?_; rintro e w4 ⟨ak, ck, rfl, rk, bb⟩; have RKk : Hid (TkRow w4 ak L) := rk; clear rk; have S2e : Hid _ := S2d.out.later bb; clear bb x0 x1 x2 x3 x4 y0 y1 y2 y3; obtain ⟨x0, x1, x2, x3, x4⟩ := gbx_cells S2e.out.gb; obtain ⟨y0, y1, y2, y3⟩ := tb_cells S2e.out.tb) | (go_at_call 16; refine (CST.out ak ck _ S2e.out.bel RKk.out).mono ?_; rintro e w5 ⟨rfl, bb⟩; have S2f : Hid _ := S2e.out.later bb; clear bb x0 x1 x2 x3 x4 y0 y1 y2 y3; obtain ⟨x0, x1, x2, x3, x4⟩ := gbx_cells S2f.out.gb; obtain ⟨y0, y1, y2, y3⟩ := tb_cells S2f.out.tb))
   refine bodyPost_ret (v := .bool true) (by simp [results, Try.results4, go_sem]) rfl ?_
   exact ⟨rfl, S2f.out.bel⟩
  ·have q2 : (e2 == 0) = false := by simpa using h2
   clear HK2 HL2 HY2 h2
   go_enter Try.func4, Try.ntmps4
   go_upto_region 4 with (first | (go_at_call 5; refine (CW.out _).mono ?_; rintro e v0 ⟨rfl, bb⟩; have B0 : Hid (Below w.heap.size w v0 /\ v0.heap[w.heap.size]? = some (gBox g)) := ⟨X0.out.1.trans (bb.mono X0.out.1.size), (bb.block _ (lt_of_block X0.out.2)).trans X0.out.2⟩; clear bb x0 x1 x2 x3 x4; obtain ⟨x0, x1, x2, x3, x4⟩ := gbx_cells B0.out.2) | (go_at_call 10; refine (CF1.out _ B0.out.1).mono ?_; rintro e v1 ⟨T1, rfl, sm, ta, bb⟩; have B1 : Hid (Below w.heap.size w v1 /\ v1.heap[w.heap.size]? = some (gBox g) /\ TAt v1 T1 /\ samV T1 t1) := ⟨B0.out.1.trans (bb.mono B0.out.1.size), (bb.block _ (lt_of_block B0.out.2)).trans B0.out.2, ta, sm⟩; clear sm ta bb x0 x1 x2 x3 x4))
   refine wp_world (fun w' => ∃ b, b = v1.heap.size /\ TOS w g b T1 w') ⟨_, rfl, B1.out.1.trans ((below_alloc _ _).mono B1.out.1.size), ((below_alloc _ _).block _ (lt_of_block B1.out.2.1)).trans B1.out.2.1, heap_alloc_new _ _, B1.out.2.2.1.later (below_alloc _ _)⟩ fun u1 hu => ?_
   obtain ⟨b1, hb1, hs⟩ := hu
   rw [<- hb1]
   have S1a : Hid (TOS w g b1 T1 u1) := hs
   clear hs hb1
   obtain ⟨x0, x1, x2, x3, x4⟩ := gbx_cells S1a.out.gb
   obtain ⟨y0, y1, y2, y3⟩ := tb_cells S1a.out.tb
   go_upto_region 8 with (first | (go_at_call 6; refine (CK1.out T1 _ S1a.out.bel S1a.out.ta B1.out.2.2.2).mono ?_; rintro e w1 ⟨rfl, bb⟩; have S1b : Hid _ := S1a.out.later bb; clear bb x0 x1 x2 x3 x4 y0 y1 y2 y3; obtain ⟨x0, x1, x2, x3, x4⟩ := gbx_cells S1b.out.gb; obtain ⟨y0, y1, y2, y3⟩ := tb_cells S1b.out.tb) | (go_at_call 7; refine (CL1.out T1 _ S1b.out.ta B1.out.2.2.2).mono ?_; rintro e w2 ⟨ai, ci, rfl, ri, bb⟩; have RI : Hid (InRow w2 ai l) := ri; clear ri; have S1c : Hid _ := S1b.out.later bb; clear bb x0 x1 x2 x3 x4 y0 y1 y2 y3; obtain ⟨x0, x1, x2, x3, x4⟩ := gbx_cells S1c.out.gb; obtain ⟨y0, y1, y2, y3⟩ := tb_cells S1c.out.tb) | (go_at_call 15; refine (CSI.out ai ci _ S1c.out.bel RI.out).mono ?_; rintro e w3 ⟨rfl, bb⟩; have S1d : Hid _ := S1c.out.later bb; clear bb x0 x1 x2 x3 x4 y0 y1 y2 y3; obtain ⟨x0, x1, x2, x3, x4⟩ := gbx_cells S1d.out.gb; obtain ⟨y0, y1, y2, y3⟩ := tb_cells S1d.out.tb) | (go_at_call 9; refine (CY1.out T1 _ S1d.out.ta B1.out.2.2.2).mono ?_; rintro e w4 ⟨ak, ck, rfl, rk, bb⟩; have RKk : Hid (TkRow w4 ak L) := rk; clear rk; have S1e : Hid _ := S1d.out.later bb; clear bb x0 x1 x2 x3 x4 y0 y1 y2 y3; obtain ⟨x0, x1, x2, x3, x4⟩ := gbx_cells S1e.out.gb; obtain ⟨y0, y1, y2, y3⟩ := tb_cells S1e.out.tb) | (go_at_call 16; refine (CST.out ak ck _ S1e.out.bel RKk.out).mono ?_; rintro e w5 ⟨rfl, bb⟩; have S1f : Hid _ := S1e.out.later bb; clear bb x0 x1 x2 x3 x4 y0 y1 y2 y3; obtain ⟨x0, x1, x2, x3, x4⟩ := gbx_cells S1f.out.gb; obtain ⟨y0, y1, y2, y3⟩ := tb_cells S1f.out.tb))
   have D0 : Hid (Below w.heap.size w _ /\ _) := ⟨S1f.out.bel, S1f.out.gb⟩
   clear x0 x1 x2 x3 x4 y0 y1 y2 y3
   obtain ⟨x0, x1, x2, x3, x4⟩ := gbx_cells D0.out.2
   go_upto_region 9 with (first | (go_at_call 11; refine (CF2.out _ D0.out.1).mono ?_; rintro e v2 ⟨T2, rfl, sm, ta, bb⟩; have B2 : Hid (Below w.heap.size w v2 /\ v2.heap[w.heap.size]? = some (gBox g) /\ TAt v2 T2 /\ samV T2 t2) := ⟨D0.out.1.trans (bb.mono D0.out.1.size), (bb.block _ (lt_of_block D0.out.2)).trans D0.out.2, ta, sm⟩; clear sm ta bb x0 x1 x2 x3 x4))
   refine wp_world (fun w' => ∃ b, b = v2.heap.size /\ TOS w g b T2 w') ⟨_, rfl, B2.out.1.trans ((below_alloc _ _).mono B2.out.1.size), ((below_alloc _ _).block _ (lt_of_block B2.out.2.1)).trans B2.out.2.1, heap_alloc_new _ _, B2.out.2.2.1.later (below_alloc _ _)⟩ fun u2 hu => ?_
   obtain ⟨b2, hb2, hs⟩ := hu
   rw [<- hb2]
   have S2a : Hid (TOS w g b2 T2 u2) := hs
   clear hs hb2
   go_wp2
   refine bodyPost_ret (v := .bool true) (by simp [results, Try.results4, go_sem]) rfl ?_
   exact ⟨rfl, S2a.out.bel⟩
 ·have q1 : (e1 == 0) = false := by simpa using h1
  clear HK1 HL1 HY1 h1
  by_cases h2 : e2 = 0
  ·have CK2 : Hid _ := HK2.out h2
   have CR2 : Hid _ := HL2.out h2
   have CY2 : Hid _ := HY2.out h2
   clear HK2 HL2 HY2
   subst h2
   have q2 : ((0 : Int) == 0) = true := by decide
   have q1n : ((0 : Int) != 0) = false := by decide
   go_enter Try.func4, Try.ntmps4
   go_upto_region 4 with (first | (go_at_call 5; refine (CW.out _).mono ?_; rintro e v0 ⟨rfl, bb⟩; have B0 : Hid (Below w.heap.size w v0 /\ v0.heap[w.heap.size]? = some (gBox g)) := ⟨X0.out.1.trans (bb.mono X0.out.1.size), (bb.block _ (lt_of_block X0.out.2)).trans X0.out.2⟩; clear bb x0 x1 x2 x3 x4; obtain ⟨x0, x1, x2, x3, x4⟩ := gbx_cells B0.out.2) | (go_at_call 10; refine (CF1.out _ B0.out.1).mono ?_; rintro e v1 ⟨T1, rfl, sm, ta, bb⟩; have B1 : Hid (Below w.heap.size w v1 /\ v1.heap[w.heap.size]? = some (gBox g) /\ TAt v1 T1 /\ samV T1 t1) := ⟨B0.out.1.trans (bb.mono B0.out.1.size), (bb.block _ (lt_of_block B0.out.2)).trans B0.out.2, ta, sm⟩; clear sm ta bb x0 x1 x2 x3 x4))
   refine wp_world (fun w' => ∃ b, b = v1.heap.size /\ TOS w g b T1 w') ⟨_, rfl, B1.out.1.trans ((below_alloc _ _).mono B1.out.1.size), ((below_alloc _ _).block _ (lt_of_block B1.out.2.1)).trans B1.out.2.1, heap_alloc_new _ _, B1.out.2.2.1.later (below_alloc _ _)⟩ fun u1 hu => ?_
   obtain ⟨b1, hb1, hs⟩ := hu
   rw [<- hb1]
   have S1a : Hid (TOS w g b1 T1 u1) := hs
   clear hs hb1
   go_upto_region 8 with fail
   have D0 : Hid (Below w.heap.size w _ /\ _) := ⟨S1a.out.bel, S1a.out.gb⟩
   obtain ⟨x0, x1, x2, x3, x4⟩ := gbx_cells D0.out.2
   go_upto_region 9 with (first | (go_at_call 11; refine (CF2.out _ D0.out.1).mono ?_; rintro e v2 ⟨T2, rfl, sm, ta, bb⟩; have B2 : Hid (Below w.heap.size w v2 /\ v2.heap[w.heap.size]? = some (gBox g) /\ TAt v2 T2 /\ samV T2 t2) := ⟨D0.out.1.trans (bb.mono D0.out.1.size), (bb.block _ (lt_of_block D0.out.2)).trans D0.out.2, ta, sm⟩; clear sm ta bb x0 x1 x2 x3 x4))
   refine wp_world (fun w' => ∃ b, b = v2.heap.size /\ TOS w g b T2 w') ⟨_, rfl, B2.out.1.trans ((below_alloc _ _).mono B2.out.1.size), ((below_alloc _ _).block _ (lt_of_block B2.out.2.1)).trans B2.out.2.1, heap_alloc_new _ _, B2.out.2.2.1.later (below_alloc _ _)⟩ fun u2 hu => ?_
   obtain ⟨b2, hb2, hs⟩ := hu
   rw [<- hb2]
   have S2a : Hid (TOS w g b2 T2 u2) := hs
   clear hs hb2
   obtain ⟨x0, x1, x2, x3, x4⟩ := gbx_cells S2a.out.gb
   obtain ⟨y0, y1, y2, y3⟩ := tb_cells S2a.out.tb
   go_wp2_with (first | (go_at_call 6; refine (CK2.out T2 _ S2a.out.bel S2a.out.ta B2.out.2.2.2).mono ?_; rintro e w1 ⟨rfl, bb⟩; have S2b : Hid _ := S2a.out.later bb; clear bb x0 x1 x2 x3 x4 y0 y1 y2 y3; obtain ⟨x0, x1, x2, x3, x4⟩ := gbx_cells S2b.out.gb; obtain ⟨y0, y1, y2, y3⟩ := tb_cells S2b.out.tb) | (go_at_call 8; refine (CR2.out T2 _ S2b.out.ta B2.out.2.2.2).mono ?_; rintro e w2 ⟨ai, ci, rfl, ri, bb⟩; have RI : Hid (InRow w2 ai l) := ri; clear ri; have S2c : Hid _ := S2b.out.later bb; clear bb x0 x1 x2 x3 x4 y0 y1 y2 y3; obtain ⟨x0, x1, x2, x3, x4⟩ := gbx_cells S2c.out.gb; obtain ⟨y0, y1, y2, y3⟩ := tb_cells S2c.out.tb) | (go_at_call 15; refine (CSI.out ai ci _ S2c.out.bel RI.out).mono ?_; rintro e w3 ⟨rfl, bb⟩; have S2d : Hid _ := S2c.out.later bb; clear bb x0 x1 x2 x3 x4 y0 y1 y2 y3; obtain ⟨x0, x1, x2, x3, x4⟩ := gbx_cells S2d.out.gb; obtain ⟨y0, y1, y2, y3⟩ := tb_cells S2d.out.tb) | (go_at_call 9; refine (CY2.out T2 _ S2d.out.ta B2.out.2.2.2).mono ?_; rintro e w4 ⟨ak, ck, rfl, rk, bb⟩; have RKk : Hid (TkRow w4 ak L) := rk; clear rk; have S2e : Hid _ := S2d.out.later bb; clear bb x0 x1 x2 x3 x4 y0 y1 y2 y3; obtain ⟨x0, x1, x2, x3, x4⟩ := gbx_cells S2e.out.gb; obtain ⟨y0, y1, y2, y3⟩ := tb_cells S2e.out.tb) | (go_at_call 16; refine (CST.out ak ck _ S2e.out.bel RKk.out).mono ?_; rintro e w5 ⟨rfl, bb⟩; have S2f : Hid _ := S2e.out.later bb; clear bb x0 x1 x2 x3 x4 y0 y1 y2 y3; obtain ⟨x0, x1, x2, x3, x4⟩ := gbx_cells S2f.out.gb; obtain ⟨y0, y1, y2, y3⟩ := tb_cells S2f.out.tb))
   refine bodyPost_ret (v := .bool true) (by simp [results, Try.results4, go_sem]) rfl ?_
   exact ⟨rfl, S2f.out.bel⟩
  ·have q2 : (e2 == 0) = false := by simpa using h2
   clear HK2 HL2 HY2 h2
   go_enter Try.func4, Try.ntmps4
   go_upto_region 4 with (first | (go_at_call 5; refine (CW.out _).mono ?_; rintro e v0 ⟨rfl, bb⟩; have B0 : Hid (Below w.heap.size w v0 /\ v0.heap[w.heap.size]? = some (gBox g)) := ⟨X0.out.1.trans (bb.mono X0.out.1.size), (bb.block _ (lt_of_block X0.out.2)).trans X0.out.2⟩; clear bb x0 x1 x2 x3 x4; obtain ⟨x0, x1, x2, x3, x4⟩ := gbx_cells B0.out.2) | (go_at_call 10; refine (CF1.out _ B0.out.1).mono ?_; rintro e v1 ⟨T1, rfl, sm, ta, bb⟩; have B1 : Hid (Below w.heap.size w v1 /\ v1.heap[w.heap.size]? = some (gBox g) /\ TAt v1 T1 /\ samV T1 t1) := ⟨B0.out.1.trans (bb.mono B0.out.1.size), (bb.block _ (lt_of_block B0.out.2)).trans B0.out.2, ta, sm⟩; clear sm ta bb x0 x1 x2 x3 x4))
   refine wp_world (fun w' => ∃ b, b = v1.heap.size /\ TOS w g b T1 w') ⟨_, rfl, B1.out.1.trans ((below_alloc _ _).mono B1.out.1.size), ((below_alloc _ _).block _ (lt_of_block B1.out.2.1)).trans B1.out.2.1, heap_alloc_new _ _, B1.out.2.2.1.later (below_alloc _ _)⟩ fun u1 hu => ?_
   obtain ⟨b1, hb1, hs⟩ := hu
   rw [<- hb1]
   have S1a : Hid (TOS w g b1 T1 u1) := hs
   clear hs hb1
   go_upto_region 8 with fail
   have D0 : Hid (Below w.heap.size w _ /\ _) := ⟨S1a.out.bel, S1a.out.gb⟩
   obtain ⟨x0, x1, x2, x3, x4⟩ := gbx_cells D0.out.2
   go_upto_region 9 with (first | (go_at_call 11; refine (CF2.out _ D0.out.1).mono ?_; rintro e v2 ⟨T2, rfl, sm, ta, bb⟩; have B2 : Hid (Below w.heap.size w v2 /\ v2.heap[w.heap.size]? = some (gBox g) /\ TAt v2 T2 /\ samV T2 t2) := ⟨D0.out.1.trans (bb.mono D0.out.1.size), (bb.block _ (lt_of_block D0.out.2)).trans D0.out.2, ta, sm⟩; clear sm ta bb x0 x1 x2 x3 x4))
   refine wp_world (fun w' => ∃ b, b = v2.heap.size /\ TOS w g b T2 w') ⟨_, rfl, B2.out.1.trans ((below_alloc _ _).mono B2.out.1.size), ((below_alloc _ _).block _ (lt_of_block B2.out.2.1)).trans B2.out.2.1, heap_alloc_new _ _, B2.out.2.2.1.later (below_alloc _ _)⟩ fun u2 hu => ?_
   obtain ⟨b2, hb2, hs⟩ := hu
   rw [<- hb2]
   have S2a : Hid (TOS w g b2 T2 u2) := hs
   clear hs hb2
   go_wp2
   refine bodyPost_ret (v := .bool true) (by simp [results, Try.results4, go_sem]) rfl ?_
   exact ⟨rfl, S2a.out.bel⟩
end Go.Proofs.Ytccednepbkjajaa
