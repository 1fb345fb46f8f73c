import Derived.Test.YtlkkllehaabebaaPPC25ToPC27
namespace Go.Proofs.Ytlkkllehaabebaa
set_option linter.unusedVariables false
set_option maxRecDepth 100000
set_option maxHeartbeats 16000000
open Go.RowKit Go.Maps
structure SmW (W wr : World) : Prop where
 c : ∀ a, wr.cell? a = W.cell? a
 b : Below W.heap.size W wr
theorem wrapP {x : Int} (h0 : 0 <= x) (h1 : x <= 1000000) : IntKind.i64.wrap x = x := IntWalk.i64_in _ ⟨by omega, by omega⟩
theorem SmW.refl (W : World) : SmW W W := ⟨fun _ => rfl, Below.refl _ _⟩
theorem SmW.drew {W wr : World} (h : SmW W wr) : SmW W wr.drew := ⟨h.c, h.b.drew⟩
set_option linter.unusedSimpArgs false in
theorem one_shift (g : GV) (q : CV) (w : World) (h : GAt 140737488355328 w g) (hpc : g.ps.length <= g.pc) (hl : q.red.length <= 140737488355328) (hr : InRow w q.ra q.red) (hrl : q.red.length <= 257) (at_ : Int) (hE : checkG g (checkF g.ts g.ns) = (0, at_)) (dl dk dp dv : Int) (dd : List Int) (h0 : rsF g 0 q = (⟨dl, dk, dp, dd, false, dv⟩, 0)) (hd : OneD q ⟨dl, dk, dp, dd, false, dv⟩) (hdl : dd.length <= 257) (b7 : Bool) (t7 : ((dd.length : Int) == 0) = b7) (h7 : b7 = true -> false = true) :
  Calls Try.prog 5 #[g.val, q.val] w fun e w' => e = .returned (.bool true) /\ Below w.heap.size w w' := by
 have N0 : Hid (GC g q w ((w.alloc (gBox g)).alloc (.cells #[.int .i64 q.st, .int .i64 q.look, .int .i64 q.shift, .slice q.ra q.red.length q.rc] 70))) := GC.new g q w
 obtain ⟨y0, y1, y2, y3⟩ := cb_cells (q := q) N0.out.cb
 obtain ⟨x0, x1, x2, x3, x4⟩ := gb_cells N0.out.gb
 have HRW : Hid (∀ w', Below w.heap.size w w' -> InRow w' q.ra q.red) := fun w' hb => hr.later hb
 have RS1 : Hid (∀ w', Below w.heap.size w w' -> Calls Try.prog 27 #[g.val, q.val] w' (DqO w' (⟨dl, dk, dp, dd, false, dv⟩, 0))) := fun w' hb => by
  have := Resolve_P g q w' (h.later hb) hpc 0 at_ hE hl (hr.later hb)
  rwa [h0] at this
 have OD : Hid (OneD q ⟨dl, dk, dp, dd, false, dv⟩) := hd
 have t1 : ((0 : Int) != 0) = false := by decide
 have t2 : (dl != q.look) = false := by have : dl = q.look := hd.look; rw [this]; simp
 have hk : 1 <= dk /\ dk <= 3 := hd.kind
 have t3 : (dk == 0) = false := by simp; omega
 have t4 : (dv == -1) = false := by have : dv ≠ -1 := hd.lev; simpa using this
 have t5 : ¬ dk < 0 := by omega
 have t6 : ¬ 3 < dk := by omega
 have t9 : 0 <= q.shift := hd.sh
 clear h hE h0 hr hd
 cases b7 with
 | true =>
  exact absurd (h7 rfl) (by decide)
 | false =>
  clear h7
  go_enter Try.func5, Try.ntmps5
  go_wp2_with (first
   | (go_at_call 15; refine (works_P _).mono ?_; rintro e w1 ⟨rfl, b1⟩; have N1 : Hid (GC g q w w1) := N0.out.later b1; clear b1 x0 x1 x2 x3 x4 y0 y1 y2 y3; obtain ⟨x0, x1, x2, x3, x4⟩ := gb_cells N1.out.gb; obtain ⟨y0, y1, y2, y3⟩ := cb_cells (q := q) N1.out.cb)
   | (go_at_call 27; refine (RS1.out _ N1.out.bel).mono ?_; rintro e w2 ⟨ao, c, rfl, d2, b2⟩; have N2 : Hid (GC g q w (w2.alloc (.cells #[.int .i64 dl, .int .i64 dk, .int .i64 dp, .slice ao dd.length c, .bool false, .int .i64 dv] 47)) /\ (w2.alloc (.cells #[.int .i64 dl, .int .i64 dk, .int .i64 dp, .slice ao dd.length c, .bool false, .int .i64 dv] 47)).heap[w2.heap.size]? = some (.cells #[.int .i64 dl, .int .i64 dk, .int .i64 dp, .slice ao dd.length c, .bool false, .int .i64 dv] 47 (0, 0)) /\ InRow (w2.alloc (.cells #[.int .i64 dl, .int .i64 dk, .int .i64 dp, .slice ao dd.length c, .bool false, .int .i64 dv] 47)) ao dd /\ InRow (w2.alloc (.cells #[.int .i64 dl, .int .i64 dk, .int .i64 dp, .slice ao dd.length c, .bool false, .int .i64 dv] 47)) q.ra q.red) := ⟨(N1.out.later b2).later (below_alloc _ _), heap_alloc_new _ _, d2.row.later (below_alloc _ _), HRW.out _ ((N1.out.later b2).later (below_alloc _ _)).bel⟩; clear d2 b2 x0 x1 x2 x3 x4 y0 y1 y2 y3; obtain ⟨y0, y1, y2, y3⟩ := cb_cells (q := q) N2.out.1.cb; have z0 : (w2.alloc (.cells #[.int .i64 dl, .int .i64 dk, .int .i64 dp, .slice ao dd.length c, .bool false, .int .i64 dv] 47)).cell? ⟨w2.heap.size, 0, none⟩ = some (.int .i64 dl) := (cellq_any N2.out.2.1).trans rfl; have z1 : (w2.alloc (.cells #[.int .i64 dl, .int .i64 dk, .int .i64 dp, .slice ao dd.length c, .bool false, .int .i64 dv] 47)).cell? ⟨w2.heap.size, 1, none⟩ = some (.int .i64 dk) := (cellq_any N2.out.2.1).trans rfl; have z2 : (w2.alloc (.cells #[.int .i64 dl, .int .i64 dk, .int .i64 dp, .slice ao dd.length c, .bool false, .int .i64 dv] 47)).cell? ⟨w2.heap.size, 2, none⟩ = some (.int .i64 dp) := (cellq_any N2.out.2.1).trans rfl; have z3 : (w2.alloc (.cells #[.int .i64 dl, .int .i64 dk, .int .i64 dp, .slice ao dd.length c, .bool false, .int .i64 dv] 47)).cell? ⟨w2.heap.size, 3, none⟩ = some (.slice ao dd.length c) := (cellq_any N2.out.2.1).trans rfl; have z4 : (w2.alloc (.cells #[.int .i64 dl, .int .i64 dk, .int .i64 dp, .slice ao dd.length c, .bool false, .int .i64 dv] 47)).cell? ⟨w2.heap.size, 4, none⟩ = some (.bool false) := (cellq_any N2.out.2.1).trans rfl; have z5 : (w2.alloc (.cells #[.int .i64 dl, .int .i64 dk, .int .i64 dp, .slice ao dd.length c, .bool false, .int .i64 dv] 47)).cell? ⟨w2.heap.size, 5, none⟩ = some (.int .i64 dv) := (cellq_any N2.out.2.1).trans rfl))
  generalize (w2.alloc (.cells #[.int .i64 dl, .int .i64 dk, .int .i64 dp, .slice ao dd.length c, .bool false, .int .i64 dv] 47)) = W at *
  obtain ⟨BD, hBD⟩ : ∃ BD, BD = w2.heap.size := ⟨_, rfl⟩
  rw [<- hBD] at z0 z1 z2 z3 z4 z5 ⊢
  clear hBD
  go_loopw [7, 8] (fun y z wr => ∃ i m : Nat, i <= q.red.length /\ z = .int .i64 i /\ y = .int .i64 m /\ m = 1 + cntU (q.red.take i) dd /\ m <= 1 + i /\ SmW W wr) (fun _ z _ => q.red.length - (intOf z).toNat)
  case atStart => exact ⟨0, 1, Nat.zero_le _, rfl, rfl, rfl, by omega, SmW.refl W⟩
  case round =>
   obtain ⟨i, m, hi, rfl, rfl, hm, hm2, hsm⟩ := hrel
   have HM : Hid (m = 1 + cntU (q.red.take i) dd) := hm
   have Swr : Hid (SmW W wr) := hsm
   have v3 := (hsm.c _).trans y3
   clear hm hsm
   by_cases hlt : i < q.red.length
   ·obtain ⟨rb, ro, hra, hrb, hrc⟩ := N2.out.2.2.2 (by intro e; rw [e] at hlt; simp at hlt)
    have r0 := hrc i hlt
    have hxm : q.red.getD i 0 ∈ q.red := mem_getD hlt
    have ilt : (i : Int) < (q.red.length : Int) := by omega
    have HKP : Hid (dd.contains (q.red.getD i 0) = false -> dk = 2 /\ dp = q.red.getD i 0) := OD.out.kept _ hxm
    have HCN : Hid (cntU (q.red.take (i + 1)) dd = cntU (q.red.take i) dd + if dd.contains (q.red.getD i 0) = true then 0 else 1) := by show _ = _; rw [take_snocD hlt, cnt_snoc]
    rw [hra] at y3 v3
    clear hrc hxm hra
    generalize q.red.getD i 0 = x at *
    go_wp2
    clear v3
    go_loopw [9, 10] (fun y z wr => ∃ k : Nat, k <= dd.length /\ z = .int .i64 k /\ y = .bool ((dd.take k).contains x) /\ SmW W wr) (fun _ z _ => dd.length - (intOf z).toNat)
    case atStart => exact ⟨0, Nat.zero_le _, rfl, rfl, Swr.out⟩
    case round =>
     clear Swr
     obtain ⟨k, hk, rfl, rfl, hsm⟩ := hrel
     have Swr : Hid (SmW W wr) := hsm
     have v3 := (hsm.c _).trans z3
     clear hsm
     by_cases hkt : k < dd.length
     ·obtain ⟨db, dof, hda, hdb, hdc⟩ := N2.out.2.2.1 (by intro e; rw [e] at hkt; simp at hkt)
      have s0 := hdc k hkt
      have klt : (k : Int) < (dd.length : Int) := by omega
      have HT : Hid ((dd.take (k + 1)).contains x = ((dd.take k).contains x || decide (dd.getD k 0 = x))) := by
       show _ = _
       rw [take_snocD hkt]
       by_cases e : dd.getD k 0 = x
       ·subst e; simp
       ·have e' : x ≠ dd.getD k 0 := fun h => e h.symm
        simp only [List.contains_eq_mem, List.mem_append, List.mem_singleton, e, e', or_false, decide_false, Bool.or_false]
      rw [hda] at z3 v3
      by_cases hk0 : k = 0
      ·subst hk0
       rw [Nat.add_zero] at s0
       have HT0 : Hid ((dd.take 1).contains x = decide (dd.getD 0 0 = x)) := by show _ = _; have := HT.out; simpa using this
       clear hdc HT
       have e0 : (dd.take 0).contains x = false := by simp
       rw [e0]
       generalize dd.getD 0 0 = v at *
       obtain ⟨bv, hbv⟩ : ∃ b : Bool, (v == x) = b := ⟨_, rfl⟩
       have HT1 : Hid ((dd.take 1).contains x = bv) := by show _ = _; rw [HT0.out, <- hbv]; rfl
       go_wp2
       obtain ⟨wa, hwa⟩ : ∃ wa : World, wa = wr.drew := ⟨_, rfl⟩
       have Swa : Hid (SmW W wa) := by rw [hwa]; exact Swr.out.drew
       have g3 := (Swa.out.c _).trans z3
       have gs := (Swa.out.c _).trans s0
       have gy := (Swa.out.c _).trans y3
       have gr := (Swa.out.c _).trans r0
       refine wp_region_s (by kernel_rfl) (by kernel_rfl) wa hwa ?_
       clear hwa
       refine st_yes (v := ?_) (by rfl) ?_ ?_
       rotate_left
       ·(go_simp; with_reducible rfl)
       (try simp only [Act.put, lsA, lsZ, lsN])
       refine st_yes (v := ?_) (by rfl) ?_ ?_
       rotate_left
       ·(go_simp; with_reducible rfl)
       (try simp only [Act.put, lsA, lsZ, lsN])
       refine st_yes (v := ?_) (by rfl) ?_ ?_
       rotate_left
       ·(go_simp; with_reducible rfl)
       (try simp only [Act.put, lsA, lsZ, lsN])
       refine st_yes (v := ?_) (by rfl) ?_ ?_
       rotate_left
       ·(go_simp; with_reducible rfl)
       (try simp only [Act.put, lsA, lsZ, lsN])
       refine st_yes (v := ?_) (by rfl) ?_ ?_
       rotate_left
       ·(go_simp; with_reducible rfl)
       (try simp only [Act.put, lsA, lsZ, lsN])
       refine st_yes (v := ?_) (by rfl) ?_ ?_
       rotate_left
       ·(go_simp; with_reducible rfl)
       (try simp only [Act.put, lsA, lsZ, lsN])
       refine st_yes (v := ?_) (by rfl) ?_ ?_
       rotate_left
       ·(go_simp; with_reducible rfl)
       (try simp only [Act.put, lsA, lsZ, lsN])
       refine st_yes (v := ?_) (by rfl) ?_ ?_
       rotate_left
       ·(go_simp; with_reducible rfl)
       (try simp only [Act.put, lsA, lsZ, lsN])
       refine st_yes (v := ?_) (by rfl) ?_ ?_
       rotate_left
       ·(go_simp; with_reducible rfl)
       (try simp only [Act.put, lsA, lsZ, lsN])
       refine st_yes (v := ?_) (by rfl) ?_ ?_
       rotate_left
       ·(go_simp; with_reducible rfl)
       (try simp only [Act.put, lsA, lsZ, lsN])
       refine st_yes (v := ?_) (by rfl) ?_ ?_
       rotate_left
       ·(go_simp; with_reducible rfl)
       (try simp only [Act.put, lsA, lsZ, lsN])
       refine st_yes (v := ?_) (by rfl) ?_ ?_
       rotate_left
       ·(go_simp; with_reducible rfl)
       (try simp only [Act.put, lsA, lsZ, lsN])
       refine st_yes (v := ?_) (by rfl) ?_ ?_
       rotate_left
       ·(go_simp; with_reducible rfl)
       (try simp only [Act.put, lsA, lsZ, lsN])
       refine st_yes (v := ?_) (by rfl) ?_ ?_
       rotate_left
       ·(go_simp; with_reducible rfl)
       (try simp only [Act.put, lsA, lsZ, lsN])
       refine st_yes (v := ?_) (by rfl) ?_ ?_
       rotate_left
       ·(go_simp; with_reducible rfl)
       (try simp only [Act.put, lsA, lsZ, lsN])
       refine st_nil ?_
       clear g3 gs gy gr
       go_wp2
       obtain ⟨wb, hwb⟩ : ∃ wb : World, wb = wa.drew := ⟨_, rfl⟩
       have Swb : Hid (SmW W wb) := by rw [hwb]; exact Swa.out.drew
       refine wp_region_s (by kernel_rfl) (by kernel_rfl) wb hwb ?_
       clear hwb
       refine st_yes (v := ?_) (by rfl) ?_ ?_
       rotate_left
       ·(go_simp; with_reducible rfl)
       (try simp only [Act.put, lsA, lsZ, lsN])
       refine st_yes (v := ?_) (by rfl) ?_ ?_
       rotate_left
       ·(go_simp; with_reducible rfl)
       (try simp only [Act.put, lsA, lsZ, lsN])
       refine st_yes (v := ?_) (by rfl) ?_ ?_
       rotate_left
       ·(go_simp; with_reducible rfl)
       (try simp only [Act.put, lsA, lsZ, lsN])
       refine st_no (by rfl) ?_
       (try simp only [Act.put, lsA, lsZ, lsN])
       refine st_no (by rfl) ?_
       (try simp only [Act.put, lsA, lsZ, lsN])
       refine st_no (by rfl) ?_
       (try simp only [Act.put, lsA, lsZ, lsN])
       refine st_no (by rfl) ?_
       (try simp only [Act.put, lsA, lsZ, lsN])
       refine st_no (by rfl) ?_
       (try simp only [Act.put, lsA, lsZ, lsN])
       refine st_no (by rfl) ?_
       (try simp only [Act.put, lsA, lsZ, lsN])
       refine st_no (by rfl) ?_
       (try simp only [Act.put, lsA, lsZ, lsN])
       refine st_no (by rfl) ?_
       (try simp only [Act.put, lsA, lsZ, lsN])
       refine st_no (by rfl) ?_
       (try simp only [Act.put, lsA, lsZ, lsN])
       refine st_no (by rfl) ?_
       (try simp only [Act.put, lsA, lsZ, lsN])
       refine st_no (by rfl) ?_
       (try simp only [Act.put, lsA, lsZ, lsN])
       refine st_no (by rfl) ?_
       (try simp only [Act.put, lsA, lsZ, lsN])
       refine st_yes (v := ?_) (by rfl) ?_ ?_
       rotate_left
       ·(go_simp; with_reducible rfl)
       (try simp only [Act.put, lsA, lsZ, lsN])
       refine st_nil ?_
       go_wp2
       go_roundw
       case rel => exact ⟨1, by omega, by go_num, by rw [HT1.out], Swb.out⟩
       case measure => simp [intOf]; omega
      ·obtain ⟨k', rfl⟩ : ∃ k', k = k' + 1 := ⟨k - 1, by omega⟩
       have sp := hdc k' (by omega)
       have hris : dd.getD k' 0 < dd.getD (k' + 1) 0 := OD.out.rise k' hkt
       have tr : decide (dd.getD (k' + 1) 0 <= dd.getD k' 0) = false := by rw [decide_eq_false_iff_not]; omega
       have kpos : (0 : Int) < ((k' + 1 : Nat) : Int) := by omega
       have kei : ((k' + 1 : Nat) : Int) - 1 = (k' : Int) := by omega
       have kge : (0 : Int) <= (k' : Int) + 1 := by omega
       have kg0 : (0 : Int) <= (k' : Int) := by omega
       have kl0 : (k' : Int) < (dd.length : Int) := by omega
       have kw : IntKind.i64.wrap (k' : Int) = (k' : Int) := wrapP (by omega) (by omega)
       clear hdc hris
       obtain ⟨bg, hbg⟩ : ∃ b : Bool, (dd.take (k' + 1)).contains x = b := ⟨_, rfl⟩
       rw [hbg] at HT ⊢
       cases bg with
       | true =>
        have HT1 : Hid ((dd.take (k' + 1 + 1)).contains x = true) := by show _ = _; rw [HT.out]; rfl
        clear HT hbg
        generalize dd.getD (k' + 1) 0 = v at *
        generalize dd.getD k' 0 = u at *
        go_wp2
        obtain ⟨wa, hwa⟩ : ∃ wa : World, wa = wr.drew := ⟨_, rfl⟩
        have Swa : Hid (SmW W wa) := by rw [hwa]; exact Swr.out.drew
        refine wp_region_s (by kernel_rfl) (by kernel_rfl) wa hwa ?_
        clear hwa
        refine st_yes (v := ?_) (by rfl) ?_ ?_
        rotate_left
        ·(go_simp; with_reducible rfl)
        (try simp only [Act.put, lsA, lsZ, lsN])
        refine st_yes (v := ?_) (by rfl) ?_ ?_
        rotate_left
        ·(go_simp; with_reducible rfl)
        (try simp only [Act.put, lsA, lsZ, lsN])
        refine st_no (by rfl) ?_
        (try simp only [Act.put, lsA, lsZ, lsN])
        refine st_no (by rfl) ?_
        (try simp only [Act.put, lsA, lsZ, lsN])
        refine st_no (by rfl) ?_
        (try simp only [Act.put, lsA, lsZ, lsN])
        refine st_no (by rfl) ?_
        (try simp only [Act.put, lsA, lsZ, lsN])
        refine st_no (by rfl) ?_
        (try simp only [Act.put, lsA, lsZ, lsN])
        refine st_no (by rfl) ?_
        (try simp only [Act.put, lsA, lsZ, lsN])
        refine st_no (by rfl) ?_
        (try simp only [Act.put, lsA, lsZ, lsN])
        refine st_no (by rfl) ?_
        (try simp only [Act.put, lsA, lsZ, lsN])
        refine st_no (by rfl) ?_
        (try simp only [Act.put, lsA, lsZ, lsN])
        refine st_no (by rfl) ?_
        (try simp only [Act.put, lsA, lsZ, lsN])
        refine st_no (by rfl) ?_
        (try simp only [Act.put, lsA, lsZ, lsN])
        refine st_yes (v := ?_) (by rfl) ?_ ?_
        rotate_left
        ·(go_simp; with_reducible rfl)
        (try simp only [Act.put, lsA, lsZ, lsN])
        refine st_yes (v := ?_) (by rfl) ?_ ?_
        rotate_left
        ·(go_simp; with_reducible rfl)
        (try simp only [Act.put, lsA, lsZ, lsN])
        refine st_nil ?_
        go_wp2
        obtain ⟨wb, hwb⟩ : ∃ wb : World, wb = wa.drew := ⟨_, rfl⟩
        have Swb : Hid (SmW W wb) := by rw [hwb]; exact Swa.out.drew
        have g3 := (Swb.out.c _).trans z3
        have gs := (Swb.out.c _).trans s0
        have gp := (Swb.out.c _).trans sp
        refine wp_region_s (by kernel_rfl) (by kernel_rfl) wb hwb ?_
        clear hwb
        refine st_yes (v := ?_) (by rfl) ?_ ?_
        rotate_left
        ·(go_simp; with_reducible rfl)
        (try simp only [Act.put, lsA, lsZ, lsN])
        refine st_yes (v := ?_) (by rfl) ?_ ?_
        rotate_left
        ·(go_simp; with_reducible rfl)
        (try simp only [Act.put, lsA, lsZ, lsN])
        refine st_yes (v := ?_) (by rfl) ?_ ?_
        rotate_left
        ·(go_simp; with_reducible rfl)
        (try simp only [Act.put, lsA, lsZ, lsN])
        refine st_yes (v := ?_) (by rfl) ?_ ?_
        rotate_left
        ·(go_simp; with_reducible rfl)
        (try simp only [Act.put, lsA, lsZ, lsN])
        refine st_yes (v := ?_) (by rfl) ?_ ?_
        rotate_left
        ·(go_simp; with_reducible rfl)
        (try simp only [Act.put, lsA, lsZ, lsN])
        refine st_yes (v := ?_) (by rfl) ?_ ?_
        rotate_left
        ·(go_simp; with_reducible rfl)
        (try simp only [Act.put, lsA, lsZ, lsN])
        refine st_yes (v := ?_) (by rfl) ?_ ?_
        rotate_left
        ·(go_simp; with_reducible rfl)
        (try simp only [Act.put, lsA, lsZ, lsN])
        refine st_yes (v := ?_) (by rfl) ?_ ?_
        rotate_left
        ·(go_simp; with_reducible rfl)
        (try simp only [Act.put, lsA, lsZ, lsN])
        refine st_yes (v := ?_) (by rfl) ?_ ?_
        rotate_left
        ·(go_simp; with_reducible rfl)
        (try simp only [Act.put, lsA, lsZ, lsN])
        refine st_yes (v := ?_) (by rfl) ?_ ?_
        rotate_left
        ·(go_simp; with_reducible rfl)
        (try simp only [Act.put, lsA, lsZ, lsN])
        refine st_yes (v := ?_) (by rfl) ?_ ?_
        rotate_left
        ·(go_simp; with_reducible rfl)
        (try simp only [Act.put, lsA, lsZ, lsN])
        refine st_yes (v := ?_) (by rfl) ?_ ?_
        rotate_left
        ·(go_simp; with_reducible rfl)
        (try simp only [Act.put, lsA, lsZ, lsN])
        refine st_yes (v := ?_) (by rfl) ?_ ?_
        rotate_left
        ·(go_simp; with_reducible rfl)
        (try simp only [Act.put, lsA, lsZ, lsN])
        refine st_yes (v := ?_) (by rfl) ?_ ?_
        rotate_left
        ·(go_simp; with_reducible rfl)
        (try simp only [Act.put, lsA, lsZ, lsN])
        refine st_yes (v := ?_) (by rfl) ?_ ?_
        rotate_left
        ·(go_simp; with_reducible rfl)
        (try simp only [Act.put, lsA, lsZ, lsN])
        refine st_yes (v := ?_) (by rfl) ?_ ?_
        rotate_left
        ·(go_simp; with_reducible rfl)
        (try simp only [Act.put, lsA, lsZ, lsN])
        refine st_nil ?_
        clear g3 gs gp
        go_wp2
        go_roundw
        case rel => exact ⟨k' + 1 + 1, by omega, by go_num, by rw [HT1.out], Swb.out⟩
        case measure => simp [intOf]; omega
       | false =>
        generalize dd.getD (k' + 1) 0 = v at *
        generalize dd.getD k' 0 = u at *
        obtain ⟨bv, hbv⟩ : ∃ b : Bool, (v == x) = b := ⟨_, rfl⟩
        have HT1 : Hid ((dd.take (k' + 1 + 1)).contains x = bv) := by show _ = _; rw [HT.out, <- hbv]; rfl
        clear HT hbg
        go_wp2
        obtain ⟨wa, hwa⟩ : ∃ wa : World, wa = wr.drew := ⟨_, rfl⟩
        have Swa : Hid (SmW W wa) := by rw [hwa]; exact Swr.out.drew
        have g3 := (Swa.out.c _).trans z3
        have gs := (Swa.out.c _).trans s0
        have gy := (Swa.out.c _).trans y3
        have gr := (Swa.out.c _).trans r0
        refine wp_region_s (by kernel_rfl) (by kernel_rfl) wa hwa ?_
        clear hwa
        refine st_yes (v := ?_) (by rfl) ?_ ?_
        rotate_left
        ·(go_simp; with_reducible rfl)
        (try simp only [Act.put, lsA, lsZ, lsN])
        refine st_yes (v := ?_) (by rfl) ?_ ?_
        rotate_left
        ·(go_simp; with_reducible rfl)
        (try simp only [Act.put, lsA, lsZ, lsN])
        refine st_yes (v := ?_) (by rfl) ?_ ?_
        rotate_left
        ·(go_simp; with_reducible rfl)
        (try simp only [Act.put, lsA, lsZ, lsN])
        refine st_yes (v := ?_) (by rfl) ?_ ?_
        rotate_left
        ·(go_simp; with_reducible rfl)
        (try simp only [Act.put, lsA, lsZ, lsN])
        refine st_yes (v := ?_) (by rfl) ?_ ?_
        rotate_left
        ·(go_simp; with_reducible rfl)
        (try simp only [Act.put, lsA, lsZ, lsN])
        refine st_yes (v := ?_) (by rfl) ?_ ?_
        rotate_left
        ·(go_simp; with_reducible rfl)
        (try simp only [Act.put, lsA, lsZ, lsN])
        refine st_yes (v := ?_) (by rfl) ?_ ?_
        rotate_left
        ·(go_simp; with_reducible rfl)
        (try simp only [Act.put, lsA, lsZ, lsN])
        refine st_yes (v := ?_) (by rfl) ?_ ?_
        rotate_left
        ·(go_simp; with_reducible rfl)
        (try simp only [Act.put, lsA, lsZ, lsN])
        refine st_yes (v := ?_) (by rfl) ?_ ?_
        rotate_left
        ·(go_simp; with_reducible rfl)
        (try simp only [Act.put, lsA, lsZ, lsN])
        refine st_yes (v := ?_) (by rfl) ?_ ?_
        rotate_left
        ·(go_simp; with_reducible rfl)
        (try simp only [Act.put, lsA, lsZ, lsN])
        refine st_yes (v := ?_) (by rfl) ?_ ?_
        rotate_left
        ·(go_simp; with_reducible rfl)
        (try simp only [Act.put, lsA, lsZ, lsN])
        refine st_yes (v := ?_) (by rfl) ?_ ?_
        rotate_left
        ·(go_simp; with_reducible rfl)
        (try simp only [Act.put, lsA, lsZ, lsN])
        refine st_yes (v := ?_) (by rfl) ?_ ?_
        rotate_left
        ·(go_simp; with_reducible rfl)
        (try simp only [Act.put, lsA, lsZ, lsN])
        refine st_yes (v := ?_) (by rfl) ?_ ?_
        rotate_left
        ·(go_simp; with_reducible rfl)
        (try simp only [Act.put, lsA, lsZ, lsN])
        refine st_yes (v := ?_) (by rfl) ?_ ?_
        rotate_left
        ·(go_simp; with_reducible rfl)
        (try simp only [Act.put, lsA, lsZ, lsN])
        refine st_nil ?_
        clear g3 gs gy gr
        go_wp2
        obtain ⟨wb, hwb⟩ : ∃ wb : World, wb = wa.drew := ⟨_, rfl⟩
        have Swb : Hid (SmW W wb) := by rw [hwb]; exact Swa.out.drew
        have g3 := (Swb.out.c _).trans z3
        have gs := (Swb.out.c _).trans s0
        have gp := (Swb.out.c _).trans sp
        refine wp_region_s (by kernel_rfl) (by kernel_rfl) wb hwb ?_
        clear hwb
        refine st_yes (v := ?_) (by rfl) ?_ ?_
        rotate_left
        ·(go_simp; with_reducible rfl)
        (try simp only [Act.put, lsA, lsZ, lsN])
        refine st_yes (v := ?_) (by rfl) ?_ ?_
        rotate_left
        ·(go_simp; with_reducible rfl)
        (try simp only [Act.put, lsA, lsZ, lsN])
        refine st_yes (v := ?_) (by rfl) ?_ ?_
        rotate_left
        ·(go_simp; with_reducible rfl)
        (try simp only [Act.put, lsA, lsZ, lsN])
        refine st_yes (v := ?_) (by rfl) ?_ ?_
        rotate_left
        ·(go_simp; with_reducible rfl)
        (try simp only [Act.put, lsA, lsZ, lsN])
        refine st_yes (v := ?_) (by rfl) ?_ ?_
        rotate_left
        ·(go_simp; with_reducible rfl)
        (try simp only [Act.put, lsA, lsZ, lsN])
        refine st_yes (v := ?_) (by rfl) ?_ ?_
        rotate_left
        ·(go_simp; with_reducible rfl)
        (try simp only [Act.put, lsA, lsZ, lsN])
        refine st_yes (v := ?_) (by rfl) ?_ ?_
        rotate_left
        ·(go_simp; with_reducible rfl)
        (try simp only [Act.put, lsA, lsZ, lsN])
        refine st_yes (v := ?_) (by rfl) ?_ ?_
        rotate_left
        ·(go_simp; with_reducible rfl)
        (try simp only [Act.put, lsA, lsZ, lsN])
        refine st_yes (v := ?_) (by rfl) ?_ ?_
        rotate_left
        ·(go_simp; with_reducible rfl)
        (try simp only [Act.put, lsA, lsZ, lsN])
        refine st_yes (v := ?_) (by rfl) ?_ ?_
        rotate_left
        ·(go_simp; with_reducible rfl)
        (try simp only [Act.put, lsA, lsZ, lsN])
        refine st_yes (v := ?_) (by rfl) ?_ ?_
        rotate_left
        ·(go_simp; with_reducible rfl)
        (try simp only [Act.put, lsA, lsZ, lsN])
        refine st_yes (v := ?_) (by rfl) ?_ ?_
        rotate_left
        ·(go_simp; with_reducible rfl)
        (try simp only [Act.put, lsA, lsZ, lsN])
        refine st_yes (v := ?_) (by rfl) ?_ ?_
        rotate_left
        ·(go_simp; with_reducible rfl)
        (try simp only [Act.put, lsA, lsZ, lsN])
        refine st_yes (v := ?_) (by rfl) ?_ ?_
        rotate_left
        ·(go_simp; with_reducible rfl)
        (try simp only [Act.put, lsA, lsZ, lsN])
        refine st_yes (v := ?_) (by rfl) ?_ ?_
        rotate_left
        ·(go_simp; with_reducible rfl)
        (try simp only [Act.put, lsA, lsZ, lsN])
        refine st_yes (v := ?_) (by rfl) ?_ ?_
        rotate_left
        ·(go_simp; with_reducible rfl)
        (try simp only [Act.put, lsA, lsZ, lsN])
        refine st_nil ?_
        clear g3 gs gp
        go_wp2
        go_roundw
        case rel => exact ⟨k' + 1 + 1, by omega, by go_num, by rw [HT1.out], Swb.out⟩
        case measure => simp [intOf]; omega
     ·obtain rfl : k = dd.length := by omega
      have klt : ¬ (dd.length : Int) < (dd.length : Int) := by omega
      rw [List.take_length]
      cases hgo : dd.contains x with
      | true =>
       have HC2 : Hid (cntU (q.red.take (i + 1)) dd = cntU (q.red.take i) dd) := by show _ = _; rw [HCN.out, hgo]; rfl
       clear HCN HKP hgo
       go_wp2
       go_roundw
       case rel => exact ⟨i + 1, m, by omega, by go_num, rfl, by rw [HC2.out]; exact HM.out, by omega, Swr.out⟩
       case measure => simp [intOf]; omega
      | false =>
       have HC2 : Hid (cntU (q.red.take (i + 1)) dd = cntU (q.red.take i) dd + 1) := by show _ = _; rw [HCN.out, hgo]; rfl
       obtain ⟨hk2, hpx⟩ := HKP.out hgo
       have u1 : (dk != 2) = false := by rw [hk2]; decide
       have u2 : (dp != x) = false := by rw [hpx]; simp
       clear HCN HKP hgo hk2 hpx
       go_wp2
       obtain ⟨wc, hwc⟩ : ∃ wc : World, wc = wr.drew := ⟨_, rfl⟩
       have Swc : Hid (SmW W wc) := by rw [hwc]; exact Swr.out.drew
       have g1 := (Swc.out.c _).trans z1
       have g2 := (Swc.out.c _).trans z2
       have gy := (Swc.out.c _).trans y3
       have gr := (Swc.out.c _).trans r0
       refine wp_region_s (by kernel_rfl) (by kernel_rfl) wc hwc ?_
       clear hwc
       refine st_yes (v := ?_) (by rfl) ?_ ?_
       rotate_left
       ·(go_simp; with_reducible rfl)
       (try simp only [Act.put, lsA, lsZ, lsN])
       refine st_yes (v := ?_) (by rfl) ?_ ?_
       rotate_left
       ·(go_simp; with_reducible rfl)
       (try simp only [Act.put, lsA, lsZ, lsN])
       refine st_yes (v := ?_) (by rfl) ?_ ?_
       rotate_left
       ·(go_simp; with_reducible rfl)
       (try simp only [Act.put, lsA, lsZ, lsN])
       refine st_yes (v := ?_) (by rfl) ?_ ?_
       rotate_left
       ·(go_simp; with_reducible rfl)
       (try simp only [Act.put, lsA, lsZ, lsN])
       refine st_yes (v := ?_) (by rfl) ?_ ?_
       rotate_left
       ·(go_simp; with_reducible rfl)
       (try simp only [Act.put, lsA, lsZ, lsN])
       refine st_yes (v := ?_) (by rfl) ?_ ?_
       rotate_left
       ·(go_simp; with_reducible rfl)
       (try simp only [Act.put, lsA, lsZ, lsN])
       refine st_yes (v := ?_) (by rfl) ?_ ?_
       rotate_left
       ·(go_simp; with_reducible rfl)
       (try simp only [Act.put, lsA, lsZ, lsN])
       refine st_yes (v := ?_) (by rfl) ?_ ?_
       rotate_left
       ·(go_simp; with_reducible rfl)
       (try simp only [Act.put, lsA, lsZ, lsN])
       refine st_yes (v := ?_) (by rfl) ?_ ?_
       rotate_left
       ·(go_simp; with_reducible rfl)
       (try simp only [Act.put, lsA, lsZ, lsN])
       refine st_yes (v := ?_) (by rfl) ?_ ?_
       rotate_left
       ·(go_simp; with_reducible rfl)
       (try simp only [Act.put, lsA, lsZ, lsN])
       refine st_yes (v := ?_) (by rfl) ?_ ?_
       rotate_left
       ·(go_simp; with_reducible rfl)
       (try simp only [Act.put, lsA, lsZ, lsN])
       refine st_yes (v := ?_) (by rfl) ?_ ?_
       rotate_left
       ·(go_simp; with_reducible rfl)
       (try simp only [Act.put, lsA, lsZ, lsN])
       refine st_yes (v := ?_) (by rfl) ?_ ?_
       rotate_left
       ·(go_simp; with_reducible rfl)
       (try simp only [Act.put, lsA, lsZ, lsN])
       refine st_nil ?_
       clear g1 g2 gy gr
       go_wp2
       go_roundw
       case rel => exact ⟨i + 1, m + 1, by omega, by go_num, by go_num, by rw [HC2.out]; have := HM.out; omega, by omega, Swc.out⟩
       case measure => simp [intOf]; omega
   ·obtain rfl : i = q.red.length := by omega
    have ilt : ¬ (q.red.length : Int) < (q.red.length : Int) := by omega
    have w1_ := (Swr.out.c _).trans z1
    have HAL := OD.out.all
    rw [List.take_length] at HM
    simp only [t9, true_and] at HAL
    have HAL2 : m = 1 /\ dk ≠ 3 := by
     rcases HAL with ⟨a, b⟩ | ⟨a, b⟩
     ·have h3 : 1 + cntU q.red dd = 1 := by simpa using a
      exact ⟨HM.out.trans h3, b⟩
     ·simp at a
    obtain ⟨rfl, hk3⟩ := HAL2
    have v1 : (dk != 3) = true := by simpa using hk3
    clear HAL HM hk3
    go_wp2
    go_ret
    exact ⟨rfl, N2.out.1.bel.trans (Swr.out.b.mono N2.out.1.bel.size)⟩
end Go.Proofs.Ytlkkllehaabebaa
