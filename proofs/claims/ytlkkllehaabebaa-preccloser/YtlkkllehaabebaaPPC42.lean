import Derived.Test.YtlkkllehaabebaaPPC40
namespace Go.Proofs.Ytlkkllehaabebaa
set_option linter.unusedVariables false
set_option maxRecDepth 100000
set_option maxHeartbeats 16000000
open Go.RowKit Go.Maps
theorem closer_res {n : Nat} {a : Nat -> Int} {g : GV} (T : Tab n a g) (ha : ∀ i, i < n -> 1 <= a i /\ a i <= 3) {i k : Nat} (hi : i < n) (hk : k < n) (w : World) (h : GAt 140737488355328 w g) (hpc : g.ps.length <= g.pc) (hE : checkG g (checkF g.ts g.ns) = (0, 0)) (z : Nat) (hz : w.heap[z]? = some (.cells #[.int .i64 (i : Int)] 3 (0, 0))) (x : Int) (hx : wantU a i k = x) (sd : Bool) (hs : sd = decide (x ≠ 1)) :
  Calls Try.prog 27 #[g.val, .agg #[.int .i64 7, .int .i64 (k : Int), .int .i64 3, .slice (some ⟨z, 0, none⟩) 1 1]] w fun e w' => ∃ lk pd ao dl c lv, e = .returned (.tuple #[.agg #[.int .i64 lk, .int .i64 x, .int .i64 pd, .slice ao dl c, .bool sd, .int .i64 lv], .int .i64 0]) /\ (dl = 1 ↔ x ≠ 2) /\ Below w.heap.size w w' := by
 have hr : InRow w (some ⟨z, 0, none⟩) [(i : Int)] := fun _ => ⟨z, 0, rfl, lt_of_block hz, fun j hj => by
  have hj : j < 1 := hj
  obtain rfl : j = 0 := by omega
  exact (cellq_any hz).trans rfl⟩
 have hc := T.cf hi hk ⟨7, (k : Int), 3, some ⟨z, 0, none⟩, 1, [(i : Int)]⟩ rfl rfl rfl
 have hq : rsF g 0 ⟨7, (k : Int), 3, some ⟨z, 0, none⟩, 1, [(i : Int)]⟩ = (resU g (k : Int) 3 [(i : Int)], 0) := by
  unfold rsF
  rw [if_neg (by simp), if_neg (by rw [hc]; simp)]
 have := Resolve_P g ⟨7, (k : Int), 3, some ⟨z, 0, none⟩, 1, [(i : Int)]⟩ w h hpc 0 0 hE (show ([(i : Int)]).length <= _ by simp) hr
 rw [hq] at this
 refine this.mono ?_
 rintro e w' ⟨ao, c, rfl, _, b⟩
 obtain ⟨r1, r2, r3⟩ := T.res hi hk ha
 rw [hx] at r1 r2 r3
 refine ⟨(resU g (k : Int) 3 [(i : Int)]).look, (resU g (k : Int) 3 [(i : Int)]).prod, ao, (resU g (k : Int) 3 [(i : Int)]).drop.length, c, (resU g (k : Int) 3 [(i : Int)]).lev, ?_, r3, b⟩
 rw [hs, <- r2, <- r1]
theorem eight_in (x : Int) : ∃ a b : Int, x.tmod 8 = a /\ (a + 8).tmod 8 = b /\ -8 < a /\ a < 8 /\ 0 <= b /\ b < 8 := by
 refine ⟨_, _, rfl, rfl, ?_⟩
 have h1 := Int.tmod_lt_of_pos x (show (0 : Int) < 8 by decide)
 have h0 : -8 < x.tmod 8 := by
  rcases Int.lt_or_le x 0 with q | q
  ·have := Int.tmod_lt_of_pos (-x) (show (0 : Int) < 8 by decide)
   rw [Int.neg_tmod] at this
   omega
  ·have := Int.tmod_nonneg 8 q
   omega
 have h2 := Int.tmod_lt_of_pos (x.tmod 8 + 8) (show (0 : Int) < 8 by decide)
 have h3 := Int.tmod_nonneg 8 (show (0 : Int) <= x.tmod 8 + 8 by omega)
 omega
set_option linter.unusedSimpArgs false in
theorem closer_walk (n0 : Int) (l : List Int) (ao : Option Addr) (ac : Nat) (w : World) (hr : InRow w ao l) (hl : l.length <= 140737488355328) :
  Calls Try.prog 6 #[.int .i64 n0, .slice ao l.length ac] w fun e w' => e = .returned (.bool true) /\ Below w.heap.size w w' := by
 obtain ⟨a8, b8, t1, t2, ha1, ha2, hb1, hb2⟩ := eight_in n0
 obtain ⟨m, hm⟩ : ∃ m : Nat, b8 = (m : Int) := ⟨b8.toNat, by omega⟩
 subst hm
 have HT : Hid (∀ w', Below w.heap.size w w' -> Calls Try.prog 28 #[.int .i64 (1 + (m : Int)), .slice ao l.length ac] w' fun e w'' => ∃ g, e = .returned (GV.val g) /\ Tab (m + 1) (asU l) g /\ GAt 140737488355328 w'' g /\ g.ps.length <= g.pc /\ Below w'.heap.size w' w'') := fun w' hb => by
  have := table_P (m + 1) (by omega) l ao ac w' (hr.later hb) hl
  rwa [show (((m + 1 : Nat)) : Int) = 1 + (m : Int) by omega] at this
 clear hr
 go_enter Try.func6, Try.ntmps6
 go_wp2_with (first
  | (go_at_call 15; refine (works_P _).mono ?_; rintro e w1 ⟨rfl, b1⟩; have B1 : Hid (Below w.heap.size w w1) := b1; clear b1)
  | (go_at_call 28; refine (HT.out _ B1.out).mono ?_; rintro e w2 ⟨g, rfl, T, G, hpc, b2⟩; have B2 : Hid (Below w.heap.size w w2 /\ Tab (m + 1) (asU l) g /\ GAt 140737488355328 w2 g /\ g.ps.length <= g.pc) := ⟨B1.out.trans (b2.mono B1.out.size), T, G, hpc⟩; clear T G hpc b2 t1 t2))
 have N2 : Hid ((w2.alloc (gBox g)).heap[w2.heap.size]? = some (gBox g) /\ Below w.heap.size w (w2.alloc (gBox g)) /\ Tab (m + 1) (asU l) g /\ GAt 140737488355328 (w2.alloc (gBox g)) g /\ g.ps.length <= g.pc /\ checkG g (checkF g.ts g.ns) = (0, 0)) := ⟨heap_alloc_new _ _, B2.out.1.trans ((below_alloc _ _).mono B2.out.1.size), B2.out.2.1, B2.out.2.2.1.later (below_alloc _ _), B2.out.2.2.2, B2.out.2.1.check (by omega) (by omega) (fun j _ => asU_in l j)⟩
 obtain ⟨lb, lo, hla, -, -⟩ := N2.out.2.2.2.1.l.cells (by intro e; have := N2.out.2.2.1.ll; rw [e] at this; simp at this)
 have HLA : Hid (g.la = some ⟨lb, lo, none⟩) := hla
 clear hla B1 B2 HT
 generalize (w2.alloc (gBox g)) = W2 at *
 generalize w2.heap.size = bg at *
 have HL : Hid (∀ w', Below W2.heap.size W2 w' -> ∀ i, i < m + 1 -> w'.cell? ⟨lb, lo + i * 2, none⟩ = some (.int .i64 (asU l i))) := fun w' hb i hi => by
  obtain ⟨b', o', e, _, hc⟩ := (N2.out.2.2.2.1.later hb).l.cells (by intro e; have := N2.out.2.2.1.ll; rw [e] at this; simp at this)
  rw [HLA.out] at e
  simp only [Option.some.injEq, Addr.mk.injEq] at e
  rw [e.1, e.2.1]
  have := (hc i (by rw [N2.out.2.2.1.ll]; exact hi)).1
  rw [(N2.out.2.2.1.li i hi).1] at this
  exact this
 go_loopw [6] (fun z wr => ∃ i : Nat, i <= m + 1 /\ z = .int .i64 i /\ Below W2.heap.size W2 wr) (fun z _ => m + 1 - (intOf z).toNat)
 case atStart => exact ⟨0, by omega, rfl, Below.refl _ _⟩
 case round =>
  obtain ⟨i, hi, rfl, hb⟩ := hrel
  have HB0 : Hid (Below W2.heap.size W2 wr) := hb
  clear hb
  by_cases hlt : i < m + 1
  ·have ilt : (i : Int) < 1 + (m : Int) := by omega
   go_wp2
   go_loopw [7] (fun z wr => ∃ k : Nat, k <= m + 1 /\ z = .int .i64 k /\ Below W2.heap.size W2 wr) (fun z _ => m + 1 - (intOf z).toNat)
   case atStart => exact ⟨0, by omega, rfl, HB0.out⟩
   case round =>
    clear HB0
    obtain ⟨k, hk, rfl, hb⟩ := hrel
    have HB : Hid (Below W2.heap.size W2 wr) := hb
    clear hb
    by_cases klt : k < m + 1
    ·have klt2 : (k : Int) < 1 + (m : Int) := by omega
     obtain ⟨x0, x1, x2, x3, x4⟩ := gb_cells (blk_later N2.out.1 HB.out)
     by_cases c1 : i < k
     ·have ck : (i : Int) < (k : Int) := by omega
      have HX : Hid (wantU (asU l) i k = 1) := by show _ = _; unfold wantU; rw [if_pos (Or.inl c1)]
      have B3 : Hid (Below W2.heap.size W2 (wr.alloc (.cells #[.int .i64 (i : Int)] 3))) := HB.out.trans ((below_alloc _ _).mono HB.out.size)
      have RS : Hid (Calls Try.prog 27 #[g.val, .agg #[.int .i64 7, .int .i64 (k : Int), .int .i64 3, .slice (some ⟨wr.heap.size, 0, none⟩) 1 1]] (wr.alloc (.cells #[.int .i64 (i : Int)] 3)) fun e w'' => ∃ lk pd ao dl c lv, e = .returned (.tuple #[.agg #[.int .i64 lk, .int .i64 1, .int .i64 pd, .slice ao dl c, .bool false, .int .i64 lv], .int .i64 0]) /\ (dl = 1 ↔ (1 : Int) ≠ 2) /\ Below (wr.alloc (.cells #[.int .i64 (i : Int)] 3)).heap.size (wr.alloc (.cells #[.int .i64 (i : Int)] 3)) w'') := closer_res N2.out.2.2.1 (fun j _ => asU_in l j) hlt klt _ (N2.out.2.2.2.1.later B3.out) N2.out.2.2.2.2.1 N2.out.2.2.2.2.2 wr.heap.size (heap_alloc_new _ _) 1 HX.out false (by decide)
      go_wp2_with (go_at_call 27; refine RS.out.mono ?_; rintro e w3 ⟨lk, pd, da, dl, dc, lv, rfl, hdl, b3⟩; obtain rfl : dl = 1 := hdl.2 (by decide); clear hdl; have N3 : Hid (Below W2.heap.size W2 (w3.alloc (.cells #[.int .i64 lk, .int .i64 1, .int .i64 pd, .slice da 1 dc, .bool false, .int .i64 lv] 47))) := B3.out.trans ((b3.trans ((below_alloc _ _).mono b3.size)).mono B3.out.size); clear b3 x0 x1 x2 x3 x4; obtain ⟨x0, x1, x2, x3, x4⟩ := gb_cells (blk_later N2.out.1 N3.out); skip)
      go_roundw
      case rel => exact ⟨k + 1, by omega, by go_num, N3.out⟩
      case measure => simp [intOf]; omega
     ·by_cases c2 : k < i
      ·have ck : ¬ (i : Int) < (k : Int) := by omega
       have ce : ((k : Int) == (i : Int)) = false := by simpa using (show ¬ (k : Int) = (i : Int) by omega)
       have cn : ¬ k = i := by omega
       have HX : Hid (wantU (asU l) i k = 2) := by show _ = _; unfold wantU; rw [if_neg (by omega), if_neg (by omega)]
       have B3 : Hid (Below W2.heap.size W2 (wr.alloc (.cells #[.int .i64 (i : Int)] 3))) := HB.out.trans ((below_alloc _ _).mono HB.out.size)
       have RS : Hid (Calls Try.prog 27 #[g.val, .agg #[.int .i64 7, .int .i64 (k : Int), .int .i64 3, .slice (some ⟨wr.heap.size, 0, none⟩) 1 1]] (wr.alloc (.cells #[.int .i64 (i : Int)] 3)) fun e w'' => ∃ lk pd ao dl c lv, e = .returned (.tuple #[.agg #[.int .i64 lk, .int .i64 2, .int .i64 pd, .slice ao dl c, .bool true, .int .i64 lv], .int .i64 0]) /\ (dl = 1 ↔ (2 : Int) ≠ 2) /\ Below (wr.alloc (.cells #[.int .i64 (i : Int)] 3)).heap.size (wr.alloc (.cells #[.int .i64 (i : Int)] 3)) w'') := closer_res N2.out.2.2.1 (fun j _ => asU_in l j) hlt klt _ (N2.out.2.2.2.1.later B3.out) N2.out.2.2.2.2.1 N2.out.2.2.2.2.2 wr.heap.size (heap_alloc_new _ _) 2 HX.out true (by decide)
       go_wp2_with (go_at_call 27; refine RS.out.mono ?_; rintro e w3 ⟨lk, pd, da, dl, dc, lv, rfl, hdl, b3⟩; have hd1 : ¬ dl = 1 := fun e => hdl.1 e rfl; have hd2 : ((dl : Int) == 1) = false := (by simpa using (show ¬ (dl : Int) = 1 by omega)); clear hdl; have N3 : Hid (Below W2.heap.size W2 (w3.alloc (.cells #[.int .i64 lk, .int .i64 2, .int .i64 pd, .slice da dl dc, .bool true, .int .i64 lv] 47))) := B3.out.trans ((b3.trans ((below_alloc _ _).mono b3.size)).mono B3.out.size); clear b3 x0 x1 x2 x3 x4; obtain ⟨x0, x1, x2, x3, x4⟩ := gb_cells (blk_later N2.out.1 N3.out); skip)
       go_roundw
       case rel => exact ⟨k + 1, by omega, by go_num, N3.out⟩
       case measure => simp [intOf]; omega
      ·obtain rfl : k = i := by omega
       obtain ⟨v, hv⟩ : ∃ v, asU l k = v := ⟨_, rfl⟩
       have hv2 := asU_in l k
       rw [hv] at hv2
       rcases (show v = 1 ∨ v = 2 ∨ v = 3 by omega) with rfl | rfl | rfl
       ·have HX : Hid (wantU (asU l) k k = 2) := by show _ = _; unfold wantU; rw [hv]; simp
        have AV : Hid (asU l k = 1) := hv
        clear hv hv2
        have B3 : Hid (Below W2.heap.size W2 (wr.alloc (.cells #[.int .i64 (k : Int)] 3))) := HB.out.trans ((below_alloc _ _).mono HB.out.size)
        have RS : Hid (Calls Try.prog 27 #[g.val, .agg #[.int .i64 7, .int .i64 (k : Int), .int .i64 3, .slice (some ⟨wr.heap.size, 0, none⟩) 1 1]] (wr.alloc (.cells #[.int .i64 (k : Int)] 3)) fun e w'' => ∃ lk pd ao dl c lv, e = .returned (.tuple #[.agg #[.int .i64 lk, .int .i64 2, .int .i64 pd, .slice ao dl c, .bool true, .int .i64 lv], .int .i64 0]) /\ (dl = 1 ↔ (2 : Int) ≠ 2) /\ Below (wr.alloc (.cells #[.int .i64 (k : Int)] 3)).heap.size (wr.alloc (.cells #[.int .i64 (k : Int)] 3)) w'') := closer_res N2.out.2.2.1 (fun j _ => asU_in l j) hlt klt _ (N2.out.2.2.2.1.later B3.out) N2.out.2.2.2.2.1 N2.out.2.2.2.2.2 wr.heap.size (heap_alloc_new _ _) 2 HX.out true (by decide)
        go_wp2_with (go_at_call 27; refine RS.out.mono ?_; rintro e w3 ⟨lk, pd, da, dl, dc, lv, rfl, hdl, b3⟩; have hd1 : ¬ dl = 1 := fun e => hdl.1 e rfl; have hd2 : ((dl : Int) == 1) = false := (by simpa using (show ¬ (dl : Int) = 1 by omega)); clear hdl; have N3 : Hid (Below W2.heap.size W2 (w3.alloc (.cells #[.int .i64 lk, .int .i64 2, .int .i64 pd, .slice da dl dc, .bool true, .int .i64 lv] 47))) := B3.out.trans ((b3.trans ((below_alloc _ _).mono b3.size)).mono B3.out.size); clear b3 x0 x1 x2 x3 x4; obtain ⟨x0, x1, x2, x3, x4⟩ := gb_cells (blk_later N2.out.1 N3.out); rw [HLA.out] at x4; have hil : (k : Int) < (g.ls.length : Int) := (by rw [N2.out.2.2.1.ll]; omega); have cl := HL.out _ N3.out k (by omega); rw [AV.out] at cl)
        go_roundw
        case rel => exact ⟨k + 1, by omega, by go_num, N3.out⟩
        case measure => simp [intOf]; omega
       ·have HX : Hid (wantU (asU l) k k = 1) := by show _ = _; unfold wantU; rw [hv]; simp
        have AV : Hid (asU l k = 2) := hv
        clear hv hv2
        have B3 : Hid (Below W2.heap.size W2 (wr.alloc (.cells #[.int .i64 (k : Int)] 3))) := HB.out.trans ((below_alloc _ _).mono HB.out.size)
        have RS : Hid (Calls Try.prog 27 #[g.val, .agg #[.int .i64 7, .int .i64 (k : Int), .int .i64 3, .slice (some ⟨wr.heap.size, 0, none⟩) 1 1]] (wr.alloc (.cells #[.int .i64 (k : Int)] 3)) fun e w'' => ∃ lk pd ao dl c lv, e = .returned (.tuple #[.agg #[.int .i64 lk, .int .i64 1, .int .i64 pd, .slice ao dl c, .bool false, .int .i64 lv], .int .i64 0]) /\ (dl = 1 ↔ (1 : Int) ≠ 2) /\ Below (wr.alloc (.cells #[.int .i64 (k : Int)] 3)).heap.size (wr.alloc (.cells #[.int .i64 (k : Int)] 3)) w'') := closer_res N2.out.2.2.1 (fun j _ => asU_in l j) hlt klt _ (N2.out.2.2.2.1.later B3.out) N2.out.2.2.2.2.1 N2.out.2.2.2.2.2 wr.heap.size (heap_alloc_new _ _) 1 HX.out false (by decide)
        go_wp2_with (go_at_call 27; refine RS.out.mono ?_; rintro e w3 ⟨lk, pd, da, dl, dc, lv, rfl, hdl, b3⟩; obtain rfl : dl = 1 := hdl.2 (by decide); clear hdl; have N3 : Hid (Below W2.heap.size W2 (w3.alloc (.cells #[.int .i64 lk, .int .i64 1, .int .i64 pd, .slice da 1 dc, .bool false, .int .i64 lv] 47))) := B3.out.trans ((b3.trans ((below_alloc _ _).mono b3.size)).mono B3.out.size); clear b3 x0 x1 x2 x3 x4; obtain ⟨x0, x1, x2, x3, x4⟩ := gb_cells (blk_later N2.out.1 N3.out); rw [HLA.out] at x4; have hil : (k : Int) < (g.ls.length : Int) := (by rw [N2.out.2.2.1.ll]; omega); have cl := HL.out _ N3.out k (by omega); rw [AV.out] at cl)
        go_roundw
        case rel => exact ⟨k + 1, by omega, by go_num, N3.out⟩
        case measure => simp [intOf]; omega
       ·have HX : Hid (wantU (asU l) k k = 3) := by show _ = _; unfold wantU; rw [hv]; simp
        have AV : Hid (asU l k = 3) := hv
        clear hv hv2
        have B3 : Hid (Below W2.heap.size W2 (wr.alloc (.cells #[.int .i64 (k : Int)] 3))) := HB.out.trans ((below_alloc _ _).mono HB.out.size)
        have RS : Hid (Calls Try.prog 27 #[g.val, .agg #[.int .i64 7, .int .i64 (k : Int), .int .i64 3, .slice (some ⟨wr.heap.size, 0, none⟩) 1 1]] (wr.alloc (.cells #[.int .i64 (k : Int)] 3)) fun e w'' => ∃ lk pd ao dl c lv, e = .returned (.tuple #[.agg #[.int .i64 lk, .int .i64 3, .int .i64 pd, .slice ao dl c, .bool true, .int .i64 lv], .int .i64 0]) /\ (dl = 1 ↔ (3 : Int) ≠ 2) /\ Below (wr.alloc (.cells #[.int .i64 (k : Int)] 3)).heap.size (wr.alloc (.cells #[.int .i64 (k : Int)] 3)) w'') := closer_res N2.out.2.2.1 (fun j _ => asU_in l j) hlt klt _ (N2.out.2.2.2.1.later B3.out) N2.out.2.2.2.2.1 N2.out.2.2.2.2.2 wr.heap.size (heap_alloc_new _ _) 3 HX.out true (by decide)
        go_wp2_with (go_at_call 27; refine RS.out.mono ?_; rintro e w3 ⟨lk, pd, da, dl, dc, lv, rfl, hdl, b3⟩; obtain rfl : dl = 1 := hdl.2 (by decide); clear hdl; have N3 : Hid (Below W2.heap.size W2 (w3.alloc (.cells #[.int .i64 lk, .int .i64 3, .int .i64 pd, .slice da 1 dc, .bool true, .int .i64 lv] 47))) := B3.out.trans ((b3.trans ((below_alloc _ _).mono b3.size)).mono B3.out.size); clear b3 x0 x1 x2 x3 x4; obtain ⟨x0, x1, x2, x3, x4⟩ := gb_cells (blk_later N2.out.1 N3.out); rw [HLA.out] at x4; have hil : (k : Int) < (g.ls.length : Int) := (by rw [N2.out.2.2.1.ll]; omega); have cl := HL.out _ N3.out k (by omega); rw [AV.out] at cl)
        go_roundw
        case rel => exact ⟨k + 1, by omega, by go_num, N3.out⟩
        case measure => simp [intOf]; omega
    ·have klt2 : ¬ (k : Int) < 1 + (m : Int) := by omega
     go_wp2
     go_roundw
     case rel => exact ⟨i + 1, by omega, by go_num, HB.out⟩
     case measure => simp [intOf]; omega
  ·have ilt : ¬ (i : Int) < 1 + (m : Int) := by omega
   go_wp2
   go_ret
   exact ⟨rfl, N2.out.2.1.trans (HB0.out.mono N2.out.2.1.size)⟩
end Go.Proofs.Ytlkkllehaabebaa
