import Derived.Test.YtlkkllehaabebaaPGUpToPC36
namespace Go.Proofs.Ytlkkllehaabebaa
set_option linter.unusedVariables false
set_option maxRecDepth 100000
set_option maxHeartbeats 16000000
open Go.RowKit Go.Maps
set_option linter.unusedSimpArgs false in
theorem ahead_walk (g : GV) (q : CV) (tm : Int) (w : World) (h : GAt 1048576 w g) (hpc : g.ps.length <= g.pc) (hl : q.red.length <= 1048576) (hr : InRow w q.ra q.red) (er at_ : Int) (hE : checkG g (checkF g.ts g.ns) = (er, at_)) :
  Calls Try.prog 7 #[g.val, q.val, .int .i64 tm] w fun e w' => e = .returned (.bool true) /\ Below w.heap.size w w' := by
 have N0 : Hid (GC g q w ((w.alloc (gBox g)).alloc (.cells #[.int .i64 q.st, .int .i64 q.look, .int .i64 q.shift, .slice q.ra q.red.length q.rc] 70))) := GC.new g q w
 obtain ⟨y0, y1, y2, y3⟩ := cb_cells (q := q) N0.out.cb
 obtain ⟨x0, x1, x2, x3, x4⟩ := gb_cells N0.out.gb
 have HG1 : Hid (∀ w', Below w.heap.size w w' -> GAt 1048576 w' g) := fun w' hb => h.later hb
 have HRW : Hid (∀ w', Below w.heap.size w w' -> InRow w' q.ra q.red) := fun w' hb => hr.later hb
 have RS1 : Hid (∀ w', Below w.heap.size w w' -> Calls Try.prog 27 #[g.val, q.val] w' (DqO w' (rsF g er q))) := fun w' hb => Resolve_P g q w' ((h.later hb).mono (by decide)) hpc er at_ hE (by omega) (hr.later hb)
 have HR0 : Hid (∃ r, r = rsF g er q) := ⟨_, rfl⟩
 have HRS : Hid (∀ r, rsF g er q = r -> r.2 = 0 -> er = 0 /\ cfE g q = 0 /\ r.1 = resU g q.look q.shift q.red) := fun r e e2 => by
  subst e
  unfold rsF at e2 ⊢
  by_cases a : er = 0
  ·rw [if_neg (by simpa using a)] at e2 ⊢
   by_cases b : cfE g q = 0
   ·rw [if_neg (by simpa using b)]
    exact ⟨a, b, rfl⟩
   ·rw [if_pos b] at e2
    exact absurd e2 b
  ·rw [if_pos a] at e2
   exact absurd e2 a
 have htl : g.ts.length <= 1048576 := h.tl
 have hnl : g.ns.length <= 1048576 := h.nl
 clear HR0 h hr
 generalize hrq : rsF g er q = r at *
 obtain ⟨d, e2⟩ := r
 go_enter Try.func7, Try.ntmps7
 go_wp2_with (first
  | (go_at_call 15; refine (works_P _).mono ?_; rintro e w1 ⟨rfl, b1⟩; have N1 : Hid (GC g q w w1) := N0.out.later b1; clear b1 x0 x1 x2 x3 x4 y0 y1 y2 y3; obtain ⟨x0, x1, x2, x3, x4⟩ := gb_cells N1.out.gb; obtain ⟨y0, y1, y2, y3⟩ := cb_cells (q := q) N1.out.cb)
  | (go_at_call 27; refine (RS1.out _ N1.out.bel).mono ?_; rintro e w2 ⟨ao, c, rfl, d2, b2⟩; have N2 : Hid (GC g q w (w2.alloc (.cells #[.int .i64 d.look, .int .i64 d.kind, .int .i64 d.prod, .slice ao d.drop.length c, .bool d.sd, .int .i64 d.lev] 47)) /\ (w2.alloc (.cells #[.int .i64 d.look, .int .i64 d.kind, .int .i64 d.prod, .slice ao d.drop.length c, .bool d.sd, .int .i64 d.lev] 47)).heap[w2.heap.size]? = some (.cells #[.int .i64 d.look, .int .i64 d.kind, .int .i64 d.prod, .slice ao d.drop.length c, .bool d.sd, .int .i64 d.lev] 47 (0, 0)) /\ InRow (w2.alloc (.cells #[.int .i64 d.look, .int .i64 d.kind, .int .i64 d.prod, .slice ao d.drop.length c, .bool d.sd, .int .i64 d.lev] 47)) ao d.drop /\ InRow w2 ao d.drop) := ⟨(N1.out.later b2).later (below_alloc _ _), heap_alloc_new _ _, d2.row.later (below_alloc _ _), d2.row⟩; clear d2 b2 x0 x1 x2 x3 x4 y0 y1 y2 y3; obtain ⟨x0, x1, x2, x3, x4⟩ := gb_cells N2.out.1.gb)
  | (go_at_call 29; refine (copy_any g _ (HG1.out _ N2.out.1.bel)).mono ?_; rintro e w4 ⟨h, M, A, H, E, rfl, sg, cg, b4⟩; have N4 : Hid (GC g q w (w4.alloc (gBox h)) /\ (w4.alloc (gBox h)).heap[w2.heap.size]? = some (.cells #[.int .i64 d.look, .int .i64 d.kind, .int .i64 d.prod, .slice ao d.drop.length c, .bool d.sd, .int .i64 d.lev] 47 (0, 0)) /\ InRow (w4.alloc (gBox h)) ao d.drop /\ (w4.alloc (gBox h)).heap[w4.heap.size]? = some (gBox h) /\ SameG g h /\ CG ((w2.alloc (.cells #[.int .i64 d.look, .int .i64 d.kind, .int .i64 d.prod, .slice ao d.drop.length c, .bool d.sd, .int .i64 d.lev] 47)).heap.size + 2) w4 h M A H E /\ Below (w2.alloc (.cells #[.int .i64 d.look, .int .i64 d.kind, .int .i64 d.prod, .slice ao d.drop.length c, .bool d.sd, .int .i64 d.lev] 47)).heap.size (w2.alloc (.cells #[.int .i64 d.look, .int .i64 d.kind, .int .i64 d.prod, .slice ao d.drop.length c, .bool d.sd, .int .i64 d.lev] 47)) w4) := ⟨(N2.out.1.later b4).later (below_alloc _ _), blk_later (blk_later N2.out.2.1 b4) (below_alloc _ _), (N2.out.2.2.1.later b4).later (below_alloc _ _), heap_alloc_new _ _, sg, cg, b4⟩; clear sg cg b4 x0 x1 x2 x3 x4; obtain ⟨v0, v1, v2, v3, v4⟩ := gb_cells N4.out.2.2.2.1)
  | (at_builtin; refine wpList_gs_append_w rfl _ _ rfl (.slice h.ta h.ts.length h.tc) h.ts rfl (N4.out.2.2.2.2.2.1.t.row.later ((below_alloc w4 _).trans ((below_alloc _ _).mono (below_alloc w4 _).size))) (w4.heap.size + 1) 1 zzzB rfl ((cellq_any (by have := heap_alloc_new (w4.alloc (gBox h)) (.cells #[.string zzzB] 9); rwa [alZ] at this)).trans rfl) (by have := (HG1.out _ N2.out.1.bel).tl; rw [N4.out.2.2.2.2.1.ts]; omega) ?_; intro a6 n6 c6 w6 gs gr; have A6 : Hid _ := AH.app (HG1.out _ N2.out.1.bel) N4.out.2.2.2.2.1 N4.out.2.2.2.2.2.1 N4.out.2.2.2.2.2.2 gs gr; clear gs gr v0 v1 v2 v3 v4; obtain ⟨v0, v1, v2, v3, v4⟩ := gb_cells A6.out.1; have fz : w6.frozen? ⟨w4.heap.size, 0, none⟩ = false := by unfold World.frozen?; rw [A6.out.1]; rfl))
 obtain ⟨_, rfl, A7⟩ := A6.out
 have A8 : Hid (AH (w2.alloc (.cells #[.int .i64 d.look, .int .i64 d.kind, .int .i64 d.prod, .slice ao d.drop.length c, .bool d.sd, .int .i64 d.lev] 47)) w4.heap.size { h with ta := a6, tc := c6, ts := h.ts ++ [zzzB] } (w6.setCell ⟨w4.heap.size, 0, none⟩ (.slice a6 (h.ts.length + 1) c6))) := A7
 have SG : Hid (SameG g h) := N4.out.2.2.2.2.1
 clear A6 A7 N4 v0 v1 v2 v3 v4 fz
 generalize hk7 : { h with ta := a6, tc := c6, ts := h.ts ++ [zzzB] } = k7 at A8
 have K7 : Hid (k7 = { h with ta := a6, tc := c6, ts := h.ts ++ [zzzB] }) := hk7.symm
 clear hk7
 generalize (w6.setCell ⟨w4.heap.size, 0, none⟩ (.slice a6 (h.ts.length + 1) c6)) = w7 at *
 generalize w4.heap.size = bh at *
 go_loopw [10] (fun z wr => ∃ i : Nat, i <= g.ts.length /\ z = .int .i64 i /\ (∀ j, j < i -> g.ts.getD j ByteArray.empty ≠ zzzB) /\ AH (w2.alloc (.cells #[.int .i64 d.look, .int .i64 d.kind, .int .i64 d.prod, .slice ao d.drop.length c, .bool d.sd, .int .i64 d.lev] 47)) bh k7 wr) (fun z _ => g.ts.length - (intOf z).toNat)
 case atStart => exact ⟨0, Nat.zero_le _, rfl, fun j hj => absurd hj (Nat.not_lt_zero _), A8.out⟩
 case round =>
  clear A8
  obtain ⟨i, hi, rfl, hno, ha⟩ := hrel
  have Ha : Hid (AH (w2.alloc (.cells #[.int .i64 d.look, .int .i64 d.kind, .int .i64 d.prod, .slice ao d.drop.length c, .bool d.sd, .int .i64 d.lev] 47)) bh k7 wr) := ha
  have Hno : Hid (∀ j, j < i -> g.ts.getD j ByteArray.empty ≠ zzzB) := hno
  have GCr : Hid (GC g q w wr) := N2.out.1.later ha.bel
  clear ha hno
  obtain ⟨x0, x1, x2, x3, x4⟩ := gb_cells GCr.out.gb
  by_cases hlt : i < g.ts.length
  ·obtain ⟨rb, ro, hta, hrb, hrc⟩ := (HG1.out wr GCr.out.bel).t (by intro e; rw [e] at hlt; simp at hlt)
   have cx := hrc i hlt
   have ilt : (i : Int) < (g.ts.length : Int) := by omega
   clear hrc
   rw [hta] at x0
   have HF : Hid (g.ts.getD i ByteArray.empty ≠ zzzB -> ∀ j, j < i + 1 -> g.ts.getD j ByteArray.empty ≠ zzzB) := fun e j hj => by
    rcases Nat.lt_succ_iff_lt_or_eq.1 hj with q | rfl
    ·exact Hno.out j q
    ·exact e
   generalize g.ts.getD i ByteArray.empty = x at *
   by_cases hz : x = zzzB
   ·have tz := zz_yes hz
    clear hz
    go_wp2
    go_ret
    exact ⟨rfl, GCr.out.bel⟩
   ·have tz := zz_no hz
    have HZ : Hid (x ≠ zzzB) := hz
    clear hz
    go_wp2
    go_roundw
    case rel => exact ⟨i + 1, by omega, by go_num, HF.out HZ.out, Ha.out⟩
    case measure => simp [intOf]; omega
  ·have ilt : ¬ (i : Int) < (g.ts.length : Int) := by omega
   have hie : i = g.ts.length := by omega
   subst hie
   have HT : Hid (zzzB ∉ g.ts) := zz_mem Hno.out
   clear Hno
   go_wp2
   go_loopw [11] (fun z wr => ∃ i : Nat, i <= g.ns.length /\ z = .int .i64 i /\ (∀ j, j < i -> g.ns.getD j ByteArray.empty ≠ zzzB) /\ AH (w2.alloc (.cells #[.int .i64 d.look, .int .i64 d.kind, .int .i64 d.prod, .slice ao d.drop.length c, .bool d.sd, .int .i64 d.lev] 47)) bh k7 wr) (fun z _ => g.ns.length - (intOf z).toNat)
   case atStart => exact ⟨0, Nat.zero_le _, rfl, fun j hj => absurd hj (Nat.not_lt_zero _), Ha.out⟩
   case round =>
    clear Ha GCr x0 x1 x2 x3 x4
    obtain ⟨i, hi, rfl, hno, ha⟩ := hrel
    have Ha : Hid (AH (w2.alloc (.cells #[.int .i64 d.look, .int .i64 d.kind, .int .i64 d.prod, .slice ao d.drop.length c, .bool d.sd, .int .i64 d.lev] 47)) bh k7 wr) := ha
    have Hno : Hid (∀ j, j < i -> g.ns.getD j ByteArray.empty ≠ zzzB) := hno
    have GCr : Hid (GC g q w wr) := N2.out.1.later ha.bel
    clear ha hno
    obtain ⟨x0, x1, x2, x3, x4⟩ := gb_cells GCr.out.gb
    by_cases hlt : i < g.ns.length
    ·obtain ⟨rb, ro, hta, hrb, hrc⟩ := (HG1.out wr GCr.out.bel).n_ (by intro e; rw [e] at hlt; simp at hlt)
     have cx := hrc i hlt
     have ilt : (i : Int) < (g.ns.length : Int) := by omega
     clear hrc
     rw [hta] at x1
     have HF : Hid (g.ns.getD i ByteArray.empty ≠ zzzB -> ∀ j, j < i + 1 -> g.ns.getD j ByteArray.empty ≠ zzzB) := fun e j hj => by
      rcases Nat.lt_succ_iff_lt_or_eq.1 hj with q | rfl
      ·exact Hno.out j q
      ·exact e
     generalize g.ns.getD i ByteArray.empty = x at *
     by_cases hz : x = zzzB
     ·have tz := zz_yes hz
      clear hz
      go_wp2
      go_ret
      exact ⟨rfl, GCr.out.bel⟩
     ·have tz := zz_no hz
      have HZ : Hid (x ≠ zzzB) := hz
      clear hz
      go_wp2
      go_roundw
      case rel => exact ⟨i + 1, by omega, by go_num, HF.out HZ.out, Ha.out⟩
      case measure => simp [intOf]; omega
    ·have ilt : ¬ (i : Int) < (g.ns.length : Int) := by omega
     have hie : i = g.ns.length := by omega
     subst hie
     have HT2 : Hid (zzzB ∉ g.ns) := zz_mem Hno.out
     clear Hno
     have B9 : Hid (Below wr.heap.size wr ((wr.alloc (.cells #[.int .i64 (g.ts.length : Int)] 3)).alloc (.cells #[.int .i64 1, .slice (some ⟨wr.heap.size, 0, none⟩) 1 1] 76))) := (below_alloc wr _).trans ((below_alloc _ _).mono (below_alloc wr _).size)
     obtain ⟨u0, u1, u2, u3, u4⟩ := gb_cells (blk_later Ha.out.hb B9.out)
     have L1 : Hid (LY ((wr.alloc (.cells #[.int .i64 (g.ts.length : Int)] 3)).alloc (.cells #[.int .i64 1, .slice (some ⟨wr.heap.size, 0, none⟩) 1 1] 76)) (.slice (some ⟨wr.heap.size + 1, 0, none⟩) 1 1) [lev0 wr.heap.size (g.ts.length : Int)]) := LY.one _ _ _ _ rfl rfl _ (by have := heap_alloc_new (wr.alloc (.cells #[.int .i64 (g.ts.length : Int)] 3)) (.cells #[.int .i64 1, .slice (some ⟨wr.heap.size, 0, none⟩) 1 1] 76); rwa [alZ] at this)
     have KL : Hid (k7.ls.length <= 1048577) := Ha.out.at.ll
     have LQ : Hid (LvRow ((wr.alloc (.cells #[.int .i64 (g.ts.length : Int)] 3)).alloc (.cells #[.int .i64 1, .slice (some ⟨wr.heap.size, 0, none⟩) 1 1] 76)) k7.la k7.ls) := Ha.out.at.l.later B9.out
     by_cases te : e2 = 0
     ·by_cases hq : q.look < (g.ts.length : Int)
      ·by_cases h64 : g.ts.length < 64
       ·by_cases h32 : g.ls.length < 32
        ·obtain ⟨he0, hcf, hd⟩ := HRS.out (d, e2) rfl te
         simp only at hd
         subst he0
         subst te
         have ok : OkC g := OkC.of (by rw [hE])
         have hcF := checkF_ok hE
         have hlv := res_lev g q.look q.shift q.red
         have hdl := res_len ok hcf
         rw [<- hd] at hlv hdl
         have U9 : Hid (∀ a9 c9, Up g { k7 with la := a9, lc := c9, ls := lev0 wr.heap.size (g.ts.length : Int) :: k7.ls }) := fun a9 c9 => by rw [K7.out]; exact up_of SG.out a6 a9 c6 c9 _
         have RS2 : Hid (∀ a9 c9 w', AI (w2.alloc (.cells #[.int .i64 d.look, .int .i64 d.kind, .int .i64 d.prod, .slice ao d.drop.length c, .bool d.sd, .int .i64 d.lev] 47)) { k7 with la := a9, lc := c9, ls := lev0 wr.heap.size (g.ts.length : Int) :: k7.ls } w' -> Below w.heap.size w w' -> Calls Try.prog 27 #[GV.val { k7 with la := a9, lc := c9, ls := lev0 wr.heap.size (g.ts.length : Int) :: k7.ls }, q.val] w' (DqO w' (upD d, 0))) := fun a9 c9 w' ai bl => by
          have u := U9.out a9 c9
          have hE9 := check_up u ok hcF HT.out HT2.out h64 h32
          have := Resolve_P _ q w' (ai.ga.mono (by decide)) (by rcases ai.pc with e | e; exact e; rw [e]; exact Nat.zero_le _) 0 0 hE9 (by omega) (HRW.out _ bl)
          rw [rs_up u ok hq hcf, <- hd] at this
          exact this
         have t1 : ((0 : Int) != 0) = false := by decide
         have t2 : ¬ (g.ts.length : Int) <= q.look := by omega
         have t3 : ¬ (64 : Int) <= g.ts.length := by omega
         have t4 : ¬ (32 : Int) <= g.ls.length := by omega
         have HD : Hid (d.drop.length <= 257) := hdl
         clear hd ok hcF hdl
         by_cases hv : 0 <= d.lev
         ·have e9 : upD d = ⟨d.look, d.kind, d.prod, d.drop, d.sd, d.lev + 1⟩ := by simp only [upD, upI]; rw [if_neg (by omega)]
          rw [e9] at RS2
          have hv1 : d.lev <= 32 := by omega
          go_wp2_with (first
           | (at_builtin; refine wpList_ly_catO rfl _ _ rfl (wr.heap.size + 1) (lev0 wr.heap.size (g.ts.length : Int)) k7.ls rfl L1.out k7.la k7.lc rfl LQ.out (Nat.le_trans KL.out (by decide)) ?_; intro a9 n9 c9 w9 ly gr; obtain ⟨hb9, rfl, ai, hb10⟩ := Ha.out.lev (g.ts.length : Int) ly gr; have AI9 : Hid (AI (w2.alloc (.cells #[.int .i64 d.look, .int .i64 d.kind, .int .i64 d.prod, .slice ao d.drop.length c, .bool d.sd, .int .i64 d.lev] 47)) { k7 with la := a9, lc := c9, ls := lev0 wr.heap.size (g.ts.length : Int) :: k7.ls } (w9.setCell ⟨bh, 4, none⟩ (.slice a9 (k7.ls.length + 1) c9)) /\ (w9.setCell ⟨bh, 4, none⟩ (.slice a9 (k7.ls.length + 1) c9)).heap[bh]? = some (gBox { k7 with la := a9, lc := c9, ls := lev0 wr.heap.size (g.ts.length : Int) :: k7.ls })) := ⟨ai, hb10⟩; have GX : Hid (GC g q w (w9.setCell ⟨bh, 4, none⟩ (.slice a9 (k7.ls.length + 1) c9)) /\ (w9.setCell ⟨bh, 4, none⟩ (.slice a9 (k7.ls.length + 1) c9)).heap[w2.heap.size]? = some (.cells #[.int .i64 d.look, .int .i64 d.kind, .int .i64 d.prod, .slice ao d.drop.length c, .bool d.sd, .int .i64 d.lev] 47 (0, 0)) /\ InRow (w9.setCell ⟨bh, 4, none⟩ (.slice a9 (k7.ls.length + 1) c9)) ao d.drop) := ⟨N2.out.1.later ai.bel, blk_later N2.out.2.1 ai.bel, N2.out.2.2.1.later ai.bel⟩; clear ly gr u0 u1 u2 u3 u4 x0 x1 x2 x3 x4 ai hb10; obtain ⟨v0, v1, v2, v3, v4⟩ := gb_cells hb9; have fz : w9.frozen? ⟨bh, 4, none⟩ = false := (by unfold World.frozen?; rw [hb9]; rfl); clear hb9; obtain ⟨x0, x1, x2, x3, x4⟩ := gb_cells GX.out.1.gb; obtain ⟨y0, y1, y2, y3⟩ := cb_cells (q := q) GX.out.1.cb; obtain ⟨p0, p1, p2, p3, p4⟩ := gb_cells AI9.out.2)
           | (go_at_call 27; refine (RS2.out a9 c9 _ AI9.out.1 GX.out.1.bel).mono ?_; rintro e w11 ⟨ao2, c2, rfl, d2, b11⟩; have S11 : Hid ((w11.alloc (.cells #[.int .i64 d.look, .int .i64 d.kind, .int .i64 d.prod, .slice ao2 d.drop.length c2, .bool d.sd, .int .i64 (d.lev + 1)] 47)).heap[w2.heap.size]? = some (.cells #[.int .i64 d.look, .int .i64 d.kind, .int .i64 d.prod, .slice ao d.drop.length c, .bool d.sd, .int .i64 d.lev] 47 (0, 0)) /\ (w11.alloc (.cells #[.int .i64 d.look, .int .i64 d.kind, .int .i64 d.prod, .slice ao2 d.drop.length c2, .bool d.sd, .int .i64 (d.lev + 1)] 47)).heap[w11.heap.size]? = some (.cells #[.int .i64 d.look, .int .i64 d.kind, .int .i64 d.prod, .slice ao2 d.drop.length c2, .bool d.sd, .int .i64 (d.lev + 1)] 47 (0, 0)) /\ w2.heap.size < (w9.setCell ⟨bh, 4, none⟩ (.slice a9 (k7.ls.length + 1) c9)).heap.size /\ Below (w9.setCell ⟨bh, 4, none⟩ (.slice a9 (k7.ls.length + 1) c9)).heap.size (w9.setCell ⟨bh, 4, none⟩ (.slice a9 (k7.ls.length + 1) c9)) (w11.alloc (.cells #[.int .i64 d.look, .int .i64 d.kind, .int .i64 d.prod, .slice ao2 d.drop.length c2, .bool d.sd, .int .i64 (d.lev + 1)] 47)) /\ w2.heap.size < w11.heap.size) := ⟨blk_later (blk_later GX.out.2.1 b11) (below_alloc _ _), heap_alloc_new _ _, lt_of_block GX.out.2.1, b11.trans ((below_alloc _ _).mono b11.size), lt_of_block (blk_later GX.out.2.1 b11)⟩; have R13 : Hid (InRow ((w11.alloc (.cells #[.int .i64 d.look, .int .i64 d.kind, .int .i64 d.prod, .slice ao2 d.drop.length c2, .bool d.sd, .int .i64 (d.lev + 1)] 47)).setCell ⟨w2.heap.size, 5, none⟩ (.int .i64 (d.lev + 1))) ao d.drop /\ InRow ((w11.alloc (.cells #[.int .i64 d.look, .int .i64 d.kind, .int .i64 d.prod, .slice ao2 d.drop.length c2, .bool d.sd, .int .i64 (d.lev + 1)] 47)).setCell ⟨w2.heap.size, 5, none⟩ (.int .i64 (d.lev + 1))) ao2 d.drop /\ Below w.heap.size w ((w11.alloc (.cells #[.int .i64 d.look, .int .i64 d.kind, .int .i64 d.prod, .slice ao2 d.drop.length c2, .bool d.sd, .int .i64 (d.lev + 1)] 47)).setCell ⟨w2.heap.size, 5, none⟩ (.int .i64 (d.lev + 1)))) := ⟨N2.out.2.2.2.later ((((below_alloc w2 _).trans (AI9.out.1.bel.mono (below_alloc w2 _).size)).trans (S11.out.2.2.2.1.mono (Nat.le_of_lt S11.out.2.2.1))).setCell (p := ⟨w2.heap.size, 5, none⟩) (Nat.le_refl _) _), (d2.set S11.out.2.2.1).row, (GX.out.1.bel.trans (S11.out.2.2.2.1.mono GX.out.1.bel.size)).setCell (p := ⟨w2.heap.size, 5, none⟩) (by have := lt_of_block N2.out.1.cb; rw [alZ] at this; show w.heap.size <= w2.heap.size; omega) _⟩; clear d2 b11; have o5 : (w11.alloc (.cells #[.int .i64 d.look, .int .i64 d.kind, .int .i64 d.prod, .slice ao2 d.drop.length c2, .bool d.sd, .int .i64 (d.lev + 1)] 47)).cell? ⟨w2.heap.size, 5, none⟩ = some (.int .i64 d.lev) := (cellq_any S11.out.1).trans rfl; have fz5 : (w11.alloc (.cells #[.int .i64 d.look, .int .i64 d.kind, .int .i64 d.prod, .slice ao2 d.drop.length c2, .bool d.sd, .int .i64 (d.lev + 1)] 47)).frozen? ⟨w2.heap.size, 5, none⟩ = false := (by unfold World.frozen?; rw [S11.out.1]; rfl); have H13 : Hid (((w11.alloc (.cells #[.int .i64 d.look, .int .i64 d.kind, .int .i64 d.prod, .slice ao2 d.drop.length c2, .bool d.sd, .int .i64 (d.lev + 1)] 47)).setCell ⟨w2.heap.size, 5, none⟩ (.int .i64 (d.lev + 1))).heap[w2.heap.size]? = some (.cells #[.int .i64 d.look, .int .i64 d.kind, .int .i64 d.prod, .slice ao d.drop.length c, .bool d.sd, .int .i64 (d.lev + 1)] 47 (0, 0)) /\ ((w11.alloc (.cells #[.int .i64 d.look, .int .i64 d.kind, .int .i64 d.prod, .slice ao2 d.drop.length c2, .bool d.sd, .int .i64 (d.lev + 1)] 47)).setCell ⟨w2.heap.size, 5, none⟩ (.int .i64 (d.lev + 1))).heap[w11.heap.size]? = some (.cells #[.int .i64 d.look, .int .i64 d.kind, .int .i64 d.prod, .slice ao2 d.drop.length c2, .bool d.sd, .int .i64 (d.lev + 1)] 47 (0, 0))) := ⟨heap_set S11.out.1 5 _, (Below.heap_setCell _ _ _ _ (show w11.heap.size ≠ w2.heap.size from Nat.ne_of_gt S11.out.2.2.2.2)).trans S11.out.2.1⟩; have m0 : ((w11.alloc (.cells #[.int .i64 d.look, .int .i64 d.kind, .int .i64 d.prod, .slice ao2 d.drop.length c2, .bool d.sd, .int .i64 (d.lev + 1)] 47)).setCell ⟨w2.heap.size, 5, none⟩ (.int .i64 (d.lev + 1))).cell? ⟨w2.heap.size, 0, none⟩ = some (.int .i64 d.look) := (cellq_any H13.out.1).trans rfl; have n0 : ((w11.alloc (.cells #[.int .i64 d.look, .int .i64 d.kind, .int .i64 d.prod, .slice ao2 d.drop.length c2, .bool d.sd, .int .i64 (d.lev + 1)] 47)).setCell ⟨w2.heap.size, 5, none⟩ (.int .i64 (d.lev + 1))).cell? ⟨w11.heap.size, 0, none⟩ = some (.int .i64 d.look) := (cellq_any H13.out.2).trans rfl; have m1 : ((w11.alloc (.cells #[.int .i64 d.look, .int .i64 d.kind, .int .i64 d.prod, .slice ao2 d.drop.length c2, .bool d.sd, .int .i64 (d.lev + 1)] 47)).setCell ⟨w2.heap.size, 5, none⟩ (.int .i64 (d.lev + 1))).cell? ⟨w2.heap.size, 1, none⟩ = some (.int .i64 d.kind) := (cellq_any H13.out.1).trans rfl; have n1 : ((w11.alloc (.cells #[.int .i64 d.look, .int .i64 d.kind, .int .i64 d.prod, .slice ao2 d.drop.length c2, .bool d.sd, .int .i64 (d.lev + 1)] 47)).setCell ⟨w2.heap.size, 5, none⟩ (.int .i64 (d.lev + 1))).cell? ⟨w11.heap.size, 1, none⟩ = some (.int .i64 d.kind) := (cellq_any H13.out.2).trans rfl; have m2 : ((w11.alloc (.cells #[.int .i64 d.look, .int .i64 d.kind, .int .i64 d.prod, .slice ao2 d.drop.length c2, .bool d.sd, .int .i64 (d.lev + 1)] 47)).setCell ⟨w2.heap.size, 5, none⟩ (.int .i64 (d.lev + 1))).cell? ⟨w2.heap.size, 2, none⟩ = some (.int .i64 d.prod) := (cellq_any H13.out.1).trans rfl; have n2 : ((w11.alloc (.cells #[.int .i64 d.look, .int .i64 d.kind, .int .i64 d.prod, .slice ao2 d.drop.length c2, .bool d.sd, .int .i64 (d.lev + 1)] 47)).setCell ⟨w2.heap.size, 5, none⟩ (.int .i64 (d.lev + 1))).cell? ⟨w11.heap.size, 2, none⟩ = some (.int .i64 d.prod) := (cellq_any H13.out.2).trans rfl; have m3 : ((w11.alloc (.cells #[.int .i64 d.look, .int .i64 d.kind, .int .i64 d.prod, .slice ao2 d.drop.length c2, .bool d.sd, .int .i64 (d.lev + 1)] 47)).setCell ⟨w2.heap.size, 5, none⟩ (.int .i64 (d.lev + 1))).cell? ⟨w2.heap.size, 3, none⟩ = some (.slice ao d.drop.length c) := (cellq_any H13.out.1).trans rfl; have n3 : ((w11.alloc (.cells #[.int .i64 d.look, .int .i64 d.kind, .int .i64 d.prod, .slice ao2 d.drop.length c2, .bool d.sd, .int .i64 (d.lev + 1)] 47)).setCell ⟨w2.heap.size, 5, none⟩ (.int .i64 (d.lev + 1))).cell? ⟨w11.heap.size, 3, none⟩ = some (.slice ao2 d.drop.length c2) := (cellq_any H13.out.2).trans rfl; have m4 : ((w11.alloc (.cells #[.int .i64 d.look, .int .i64 d.kind, .int .i64 d.prod, .slice ao2 d.drop.length c2, .bool d.sd, .int .i64 (d.lev + 1)] 47)).setCell ⟨w2.heap.size, 5, none⟩ (.int .i64 (d.lev + 1))).cell? ⟨w2.heap.size, 4, none⟩ = some (.bool d.sd) := (cellq_any H13.out.1).trans rfl; have n4 : ((w11.alloc (.cells #[.int .i64 d.look, .int .i64 d.kind, .int .i64 d.prod, .slice ao2 d.drop.length c2, .bool d.sd, .int .i64 (d.lev + 1)] 47)).setCell ⟨w2.heap.size, 5, none⟩ (.int .i64 (d.lev + 1))).cell? ⟨w11.heap.size, 4, none⟩ = some (.bool d.sd) := (cellq_any H13.out.2).trans rfl; have m5 : ((w11.alloc (.cells #[.int .i64 d.look, .int .i64 d.kind, .int .i64 d.prod, .slice ao2 d.drop.length c2, .bool d.sd, .int .i64 (d.lev + 1)] 47)).setCell ⟨w2.heap.size, 5, none⟩ (.int .i64 (d.lev + 1))).cell? ⟨w2.heap.size, 5, none⟩ = some (.int .i64 (d.lev + 1)) := (cellq_any H13.out.1).trans rfl; have n5 : ((w11.alloc (.cells #[.int .i64 d.look, .int .i64 d.kind, .int .i64 d.prod, .slice ao2 d.drop.length c2, .bool d.sd, .int .i64 (d.lev + 1)] 47)).setCell ⟨w2.heap.size, 5, none⟩ (.int .i64 (d.lev + 1))).cell? ⟨w11.heap.size, 5, none⟩ = some (.int .i64 (d.lev + 1)) := (cellq_any H13.out.2).trans rfl)
           | (go_at_call 17; refine (same_P ⟨d.look, d.kind, d.prod, d.drop, d.sd, d.lev + 1⟩ ao ao2 c c2 _ (by have := HD.out; show d.drop.length <= _; omega) R13.out.1 R13.out.2.1).mono ?_; rintro e w14 ⟨rfl, b14⟩; have E14 : Hid (Below w.heap.size w w14) := R13.out.2.2.trans (b14.mono R13.out.2.2.size); clear b14))
          go_ret
          exact ⟨rfl, E14.out⟩
         ·have e9 : upD d = d := by simp only [upD, upI]; rw [if_pos (show d.lev = -1 by omega)]; (have : d.lev = -1 := by omega); rw [<- this]
          rw [e9] at RS2
          go_wp2_with (first
           | (at_builtin; refine wpList_ly_catO rfl _ _ rfl (wr.heap.size + 1) (lev0 wr.heap.size (g.ts.length : Int)) k7.ls rfl L1.out k7.la k7.lc rfl LQ.out (Nat.le_trans KL.out (by decide)) ?_; intro a9 n9 c9 w9 ly gr; obtain ⟨hb9, rfl, ai, hb10⟩ := Ha.out.lev (g.ts.length : Int) ly gr; have AI9 : Hid (AI (w2.alloc (.cells #[.int .i64 d.look, .int .i64 d.kind, .int .i64 d.prod, .slice ao d.drop.length c, .bool d.sd, .int .i64 d.lev] 47)) { k7 with la := a9, lc := c9, ls := lev0 wr.heap.size (g.ts.length : Int) :: k7.ls } (w9.setCell ⟨bh, 4, none⟩ (.slice a9 (k7.ls.length + 1) c9)) /\ (w9.setCell ⟨bh, 4, none⟩ (.slice a9 (k7.ls.length + 1) c9)).heap[bh]? = some (gBox { k7 with la := a9, lc := c9, ls := lev0 wr.heap.size (g.ts.length : Int) :: k7.ls })) := ⟨ai, hb10⟩; have GX : Hid (GC g q w (w9.setCell ⟨bh, 4, none⟩ (.slice a9 (k7.ls.length + 1) c9)) /\ (w9.setCell ⟨bh, 4, none⟩ (.slice a9 (k7.ls.length + 1) c9)).heap[w2.heap.size]? = some (.cells #[.int .i64 d.look, .int .i64 d.kind, .int .i64 d.prod, .slice ao d.drop.length c, .bool d.sd, .int .i64 d.lev] 47 (0, 0)) /\ InRow (w9.setCell ⟨bh, 4, none⟩ (.slice a9 (k7.ls.length + 1) c9)) ao d.drop) := ⟨N2.out.1.later ai.bel, blk_later N2.out.2.1 ai.bel, N2.out.2.2.1.later ai.bel⟩; clear ly gr u0 u1 u2 u3 u4 x0 x1 x2 x3 x4 ai hb10; obtain ⟨v0, v1, v2, v3, v4⟩ := gb_cells hb9; have fz : w9.frozen? ⟨bh, 4, none⟩ = false := (by unfold World.frozen?; rw [hb9]; rfl); clear hb9; obtain ⟨x0, x1, x2, x3, x4⟩ := gb_cells GX.out.1.gb; obtain ⟨y0, y1, y2, y3⟩ := cb_cells (q := q) GX.out.1.cb; obtain ⟨p0, p1, p2, p3, p4⟩ := gb_cells AI9.out.2)
           | (go_at_call 27; refine (RS2.out a9 c9 _ AI9.out.1 GX.out.1.bel).mono ?_; rintro e w11 ⟨ao2, c2, rfl, d2, b11⟩; have S11 : Hid ((w11.alloc (.cells #[.int .i64 d.look, .int .i64 d.kind, .int .i64 d.prod, .slice ao2 d.drop.length c2, .bool d.sd, .int .i64 d.lev] 47)).heap[w2.heap.size]? = some (.cells #[.int .i64 d.look, .int .i64 d.kind, .int .i64 d.prod, .slice ao d.drop.length c, .bool d.sd, .int .i64 d.lev] 47 (0, 0)) /\ (w11.alloc (.cells #[.int .i64 d.look, .int .i64 d.kind, .int .i64 d.prod, .slice ao2 d.drop.length c2, .bool d.sd, .int .i64 d.lev] 47)).heap[w11.heap.size]? = some (.cells #[.int .i64 d.look, .int .i64 d.kind, .int .i64 d.prod, .slice ao2 d.drop.length c2, .bool d.sd, .int .i64 d.lev] 47 (0, 0)) /\ w2.heap.size < (w9.setCell ⟨bh, 4, none⟩ (.slice a9 (k7.ls.length + 1) c9)).heap.size /\ Below (w9.setCell ⟨bh, 4, none⟩ (.slice a9 (k7.ls.length + 1) c9)).heap.size (w9.setCell ⟨bh, 4, none⟩ (.slice a9 (k7.ls.length + 1) c9)) (w11.alloc (.cells #[.int .i64 d.look, .int .i64 d.kind, .int .i64 d.prod, .slice ao2 d.drop.length c2, .bool d.sd, .int .i64 d.lev] 47)) /\ w2.heap.size < w11.heap.size) := ⟨blk_later (blk_later GX.out.2.1 b11) (below_alloc _ _), heap_alloc_new _ _, lt_of_block GX.out.2.1, b11.trans ((below_alloc _ _).mono b11.size), lt_of_block (blk_later GX.out.2.1 b11)⟩; have R13 : Hid (InRow (w11.alloc (.cells #[.int .i64 d.look, .int .i64 d.kind, .int .i64 d.prod, .slice ao2 d.drop.length c2, .bool d.sd, .int .i64 d.lev] 47)) ao d.drop /\ InRow (w11.alloc (.cells #[.int .i64 d.look, .int .i64 d.kind, .int .i64 d.prod, .slice ao2 d.drop.length c2, .bool d.sd, .int .i64 d.lev] 47)) ao2 d.drop /\ Below w.heap.size w (w11.alloc (.cells #[.int .i64 d.look, .int .i64 d.kind, .int .i64 d.prod, .slice ao2 d.drop.length c2, .bool d.sd, .int .i64 d.lev] 47))) := ⟨GX.out.2.2.later S11.out.2.2.2.1, d2.row.later (below_alloc _ _), GX.out.1.bel.trans (S11.out.2.2.2.1.mono GX.out.1.bel.size)⟩; clear d2 b11; have m0 : (w11.alloc (.cells #[.int .i64 d.look, .int .i64 d.kind, .int .i64 d.prod, .slice ao2 d.drop.length c2, .bool d.sd, .int .i64 d.lev] 47)).cell? ⟨w2.heap.size, 0, none⟩ = some (.int .i64 d.look) := (cellq_any S11.out.1).trans rfl; have n0 : (w11.alloc (.cells #[.int .i64 d.look, .int .i64 d.kind, .int .i64 d.prod, .slice ao2 d.drop.length c2, .bool d.sd, .int .i64 d.lev] 47)).cell? ⟨w11.heap.size, 0, none⟩ = some (.int .i64 d.look) := (cellq_any S11.out.2.1).trans rfl; have m1 : (w11.alloc (.cells #[.int .i64 d.look, .int .i64 d.kind, .int .i64 d.prod, .slice ao2 d.drop.length c2, .bool d.sd, .int .i64 d.lev] 47)).cell? ⟨w2.heap.size, 1, none⟩ = some (.int .i64 d.kind) := (cellq_any S11.out.1).trans rfl; have n1 : (w11.alloc (.cells #[.int .i64 d.look, .int .i64 d.kind, .int .i64 d.prod, .slice ao2 d.drop.length c2, .bool d.sd, .int .i64 d.lev] 47)).cell? ⟨w11.heap.size, 1, none⟩ = some (.int .i64 d.kind) := (cellq_any S11.out.2.1).trans rfl; have m2 : (w11.alloc (.cells #[.int .i64 d.look, .int .i64 d.kind, .int .i64 d.prod, .slice ao2 d.drop.length c2, .bool d.sd, .int .i64 d.lev] 47)).cell? ⟨w2.heap.size, 2, none⟩ = some (.int .i64 d.prod) := (cellq_any S11.out.1).trans rfl; have n2 : (w11.alloc (.cells #[.int .i64 d.look, .int .i64 d.kind, .int .i64 d.prod, .slice ao2 d.drop.length c2, .bool d.sd, .int .i64 d.lev] 47)).cell? ⟨w11.heap.size, 2, none⟩ = some (.int .i64 d.prod) := (cellq_any S11.out.2.1).trans rfl; have m3 : (w11.alloc (.cells #[.int .i64 d.look, .int .i64 d.kind, .int .i64 d.prod, .slice ao2 d.drop.length c2, .bool d.sd, .int .i64 d.lev] 47)).cell? ⟨w2.heap.size, 3, none⟩ = some (.slice ao d.drop.length c) := (cellq_any S11.out.1).trans rfl; have n3 : (w11.alloc (.cells #[.int .i64 d.look, .int .i64 d.kind, .int .i64 d.prod, .slice ao2 d.drop.length c2, .bool d.sd, .int .i64 d.lev] 47)).cell? ⟨w11.heap.size, 3, none⟩ = some (.slice ao2 d.drop.length c2) := (cellq_any S11.out.2.1).trans rfl; have m4 : (w11.alloc (.cells #[.int .i64 d.look, .int .i64 d.kind, .int .i64 d.prod, .slice ao2 d.drop.length c2, .bool d.sd, .int .i64 d.lev] 47)).cell? ⟨w2.heap.size, 4, none⟩ = some (.bool d.sd) := (cellq_any S11.out.1).trans rfl; have n4 : (w11.alloc (.cells #[.int .i64 d.look, .int .i64 d.kind, .int .i64 d.prod, .slice ao2 d.drop.length c2, .bool d.sd, .int .i64 d.lev] 47)).cell? ⟨w11.heap.size, 4, none⟩ = some (.bool d.sd) := (cellq_any S11.out.2.1).trans rfl; have m5 : (w11.alloc (.cells #[.int .i64 d.look, .int .i64 d.kind, .int .i64 d.prod, .slice ao2 d.drop.length c2, .bool d.sd, .int .i64 d.lev] 47)).cell? ⟨w2.heap.size, 5, none⟩ = some (.int .i64 d.lev) := (cellq_any S11.out.1).trans rfl; have n5 : (w11.alloc (.cells #[.int .i64 d.look, .int .i64 d.kind, .int .i64 d.prod, .slice ao2 d.drop.length c2, .bool d.sd, .int .i64 d.lev] 47)).cell? ⟨w11.heap.size, 5, none⟩ = some (.int .i64 d.lev) := (cellq_any S11.out.2.1).trans rfl)
           | (go_at_call 17; refine (same_P d ao ao2 c c2 _ (by have := HD.out; omega) R13.out.1 R13.out.2.1).mono ?_; rintro e w14 ⟨rfl, b14⟩; have E14 : Hid (Below w.heap.size w w14) := R13.out.2.2.trans (b14.mono R13.out.2.2.size); clear b14))
          go_ret
          exact ⟨rfl, E14.out⟩
        ·have t1 : (e2 != 0) = false := by simpa using te
         have t2 : ¬ (g.ts.length : Int) <= q.look := by omega
         have t3 : ¬ (64 : Int) <= g.ts.length := by omega
         have t4 : (32 : Int) <= g.ls.length := by omega
         go_wp2_with (at_builtin; refine wpList_ly_catO rfl _ _ rfl (wr.heap.size + 1) (lev0 wr.heap.size (g.ts.length : Int)) k7.ls rfl L1.out k7.la k7.lc rfl LQ.out (Nat.le_trans KL.out (by decide)) ?_; intro a9 n9 c9 w9 ly gr; obtain ⟨hb9, rfl, ai, hb10⟩ := Ha.out.lev (g.ts.length : Int) ly gr; have AI9 : Hid (AI (w2.alloc (.cells #[.int .i64 d.look, .int .i64 d.kind, .int .i64 d.prod, .slice ao d.drop.length c, .bool d.sd, .int .i64 d.lev] 47)) { k7 with la := a9, lc := c9, ls := lev0 wr.heap.size (g.ts.length : Int) :: k7.ls } (w9.setCell ⟨bh, 4, none⟩ (.slice a9 (k7.ls.length + 1) c9)) /\ (w9.setCell ⟨bh, 4, none⟩ (.slice a9 (k7.ls.length + 1) c9)).heap[bh]? = some (gBox { k7 with la := a9, lc := c9, ls := lev0 wr.heap.size (g.ts.length : Int) :: k7.ls })) := ⟨ai, hb10⟩; have GX : Hid (GC g q w (w9.setCell ⟨bh, 4, none⟩ (.slice a9 (k7.ls.length + 1) c9)) /\ (w9.setCell ⟨bh, 4, none⟩ (.slice a9 (k7.ls.length + 1) c9)).heap[w2.heap.size]? = some (.cells #[.int .i64 d.look, .int .i64 d.kind, .int .i64 d.prod, .slice ao d.drop.length c, .bool d.sd, .int .i64 d.lev] 47 (0, 0)) /\ InRow (w9.setCell ⟨bh, 4, none⟩ (.slice a9 (k7.ls.length + 1) c9)) ao d.drop) := ⟨N2.out.1.later ai.bel, blk_later N2.out.2.1 ai.bel, N2.out.2.2.1.later ai.bel⟩; clear ly gr u0 u1 u2 u3 u4 x0 x1 x2 x3 x4 ai hb10; obtain ⟨v0, v1, v2, v3, v4⟩ := gb_cells hb9; have fz : w9.frozen? ⟨bh, 4, none⟩ = false := (by unfold World.frozen?; rw [hb9]; rfl); clear hb9; obtain ⟨x0, x1, x2, x3, x4⟩ := gb_cells GX.out.1.gb; obtain ⟨y0, y1, y2, y3⟩ := cb_cells (q := q) GX.out.1.cb)
         go_ret
         exact ⟨rfl, GX.out.1.bel⟩
       ·have t1 : (e2 != 0) = false := by simpa using te
        have t2 : ¬ (g.ts.length : Int) <= q.look := by omega
        have t3 : (64 : Int) <= g.ts.length := by omega
        go_wp2_with (at_builtin; refine wpList_ly_catO rfl _ _ rfl (wr.heap.size + 1) (lev0 wr.heap.size (g.ts.length : Int)) k7.ls rfl L1.out k7.la k7.lc rfl LQ.out (Nat.le_trans KL.out (by decide)) ?_; intro a9 n9 c9 w9 ly gr; obtain ⟨hb9, rfl, ai, hb10⟩ := Ha.out.lev (g.ts.length : Int) ly gr; have AI9 : Hid (AI (w2.alloc (.cells #[.int .i64 d.look, .int .i64 d.kind, .int .i64 d.prod, .slice ao d.drop.length c, .bool d.sd, .int .i64 d.lev] 47)) { k7 with la := a9, lc := c9, ls := lev0 wr.heap.size (g.ts.length : Int) :: k7.ls } (w9.setCell ⟨bh, 4, none⟩ (.slice a9 (k7.ls.length + 1) c9)) /\ (w9.setCell ⟨bh, 4, none⟩ (.slice a9 (k7.ls.length + 1) c9)).heap[bh]? = some (gBox { k7 with la := a9, lc := c9, ls := lev0 wr.heap.size (g.ts.length : Int) :: k7.ls })) := ⟨ai, hb10⟩; have GX : Hid (GC g q w (w9.setCell ⟨bh, 4, none⟩ (.slice a9 (k7.ls.length + 1) c9)) /\ (w9.setCell ⟨bh, 4, none⟩ (.slice a9 (k7.ls.length + 1) c9)).heap[w2.heap.size]? = some (.cells #[.int .i64 d.look, .int .i64 d.kind, .int .i64 d.prod, .slice ao d.drop.length c, .bool d.sd, .int .i64 d.lev] 47 (0, 0)) /\ InRow (w9.setCell ⟨bh, 4, none⟩ (.slice a9 (k7.ls.length + 1) c9)) ao d.drop) := ⟨N2.out.1.later ai.bel, blk_later N2.out.2.1 ai.bel, N2.out.2.2.1.later ai.bel⟩; clear ly gr u0 u1 u2 u3 u4 x0 x1 x2 x3 x4 ai hb10; obtain ⟨v0, v1, v2, v3, v4⟩ := gb_cells hb9; have fz : w9.frozen? ⟨bh, 4, none⟩ = false := (by unfold World.frozen?; rw [hb9]; rfl); clear hb9; obtain ⟨x0, x1, x2, x3, x4⟩ := gb_cells GX.out.1.gb; obtain ⟨y0, y1, y2, y3⟩ := cb_cells (q := q) GX.out.1.cb)
        go_ret
        exact ⟨rfl, GX.out.1.bel⟩
      ·have t1 : (e2 != 0) = false := by simpa using te
       have t2 : (g.ts.length : Int) <= q.look := by omega
       go_wp2_with (at_builtin; refine wpList_ly_catO rfl _ _ rfl (wr.heap.size + 1) (lev0 wr.heap.size (g.ts.length : Int)) k7.ls rfl L1.out k7.la k7.lc rfl LQ.out (Nat.le_trans KL.out (by decide)) ?_; intro a9 n9 c9 w9 ly gr; obtain ⟨hb9, rfl, ai, hb10⟩ := Ha.out.lev (g.ts.length : Int) ly gr; have AI9 : Hid (AI (w2.alloc (.cells #[.int .i64 d.look, .int .i64 d.kind, .int .i64 d.prod, .slice ao d.drop.length c, .bool d.sd, .int .i64 d.lev] 47)) { k7 with la := a9, lc := c9, ls := lev0 wr.heap.size (g.ts.length : Int) :: k7.ls } (w9.setCell ⟨bh, 4, none⟩ (.slice a9 (k7.ls.length + 1) c9)) /\ (w9.setCell ⟨bh, 4, none⟩ (.slice a9 (k7.ls.length + 1) c9)).heap[bh]? = some (gBox { k7 with la := a9, lc := c9, ls := lev0 wr.heap.size (g.ts.length : Int) :: k7.ls })) := ⟨ai, hb10⟩; have GX : Hid (GC g q w (w9.setCell ⟨bh, 4, none⟩ (.slice a9 (k7.ls.length + 1) c9)) /\ (w9.setCell ⟨bh, 4, none⟩ (.slice a9 (k7.ls.length + 1) c9)).heap[w2.heap.size]? = some (.cells #[.int .i64 d.look, .int .i64 d.kind, .int .i64 d.prod, .slice ao d.drop.length c, .bool d.sd, .int .i64 d.lev] 47 (0, 0)) /\ InRow (w9.setCell ⟨bh, 4, none⟩ (.slice a9 (k7.ls.length + 1) c9)) ao d.drop) := ⟨N2.out.1.later ai.bel, blk_later N2.out.2.1 ai.bel, N2.out.2.2.1.later ai.bel⟩; clear ly gr u0 u1 u2 u3 u4 x0 x1 x2 x3 x4 ai hb10; obtain ⟨v0, v1, v2, v3, v4⟩ := gb_cells hb9; have fz : w9.frozen? ⟨bh, 4, none⟩ = false := (by unfold World.frozen?; rw [hb9]; rfl); clear hb9; obtain ⟨x0, x1, x2, x3, x4⟩ := gb_cells GX.out.1.gb; obtain ⟨y0, y1, y2, y3⟩ := cb_cells (q := q) GX.out.1.cb)
       go_ret
       exact ⟨rfl, GX.out.1.bel⟩
     ·have t1 : (e2 != 0) = true := by simpa using te
      go_wp2_with (at_builtin; refine wpList_ly_catO rfl _ _ rfl (wr.heap.size + 1) (lev0 wr.heap.size (g.ts.length : Int)) k7.ls rfl L1.out k7.la k7.lc rfl LQ.out (Nat.le_trans KL.out (by decide)) ?_; intro a9 n9 c9 w9 ly gr; obtain ⟨hb9, rfl, ai, hb10⟩ := Ha.out.lev (g.ts.length : Int) ly gr; have AI9 : Hid (AI (w2.alloc (.cells #[.int .i64 d.look, .int .i64 d.kind, .int .i64 d.prod, .slice ao d.drop.length c, .bool d.sd, .int .i64 d.lev] 47)) { k7 with la := a9, lc := c9, ls := lev0 wr.heap.size (g.ts.length : Int) :: k7.ls } (w9.setCell ⟨bh, 4, none⟩ (.slice a9 (k7.ls.length + 1) c9)) /\ (w9.setCell ⟨bh, 4, none⟩ (.slice a9 (k7.ls.length + 1) c9)).heap[bh]? = some (gBox { k7 with la := a9, lc := c9, ls := lev0 wr.heap.size (g.ts.length : Int) :: k7.ls })) := ⟨ai, hb10⟩; have GX : Hid (GC g q w (w9.setCell ⟨bh, 4, none⟩ (.slice a9 (k7.ls.length + 1) c9)) /\ (w9.setCell ⟨bh, 4, none⟩ (.slice a9 (k7.ls.length + 1) c9)).heap[w2.heap.size]? = some (.cells #[.int .i64 d.look, .int .i64 d.kind, .int .i64 d.prod, .slice ao d.drop.length c, .bool d.sd, .int .i64 d.lev] 47 (0, 0)) /\ InRow (w9.setCell ⟨bh, 4, none⟩ (.slice a9 (k7.ls.length + 1) c9)) ao d.drop) := ⟨N2.out.1.later ai.bel, blk_later N2.out.2.1 ai.bel, N2.out.2.2.1.later ai.bel⟩; clear ly gr u0 u1 u2 u3 u4 x0 x1 x2 x3 x4 ai hb10; obtain ⟨v0, v1, v2, v3, v4⟩ := gb_cells hb9; have fz : w9.frozen? ⟨bh, 4, none⟩ = false := (by unfold World.frozen?; rw [hb9]; rfl); clear hb9; obtain ⟨x0, x1, x2, x3, x4⟩ := gb_cells GX.out.1.gb; obtain ⟨y0, y1, y2, y3⟩ := cb_cells (q := q) GX.out.1.cb)
      go_ret
      exact ⟨rfl, GX.out.1.bel⟩
end Go.Proofs.Ytlkkllehaabebaa
