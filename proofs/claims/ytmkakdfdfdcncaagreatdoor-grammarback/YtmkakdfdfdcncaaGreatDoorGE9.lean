import Derived.Test.YtmkakdfdfdcncaaGreatDoorGE8
namespace Go.Proofs.YtmkakdfdfdcncaaGreatDoor
set_option linter.unusedVariables false
open Go.RowKit

set_option maxRecDepth 100000 in
set_option maxHeartbeats 4000000 in
theorem dec_open (w : World) (ao : Option Addr) (N cap : Nat) (xs : List Int) (hN : N = xs.length) (hl : xs.length ≤ 140737488355328) (hcap : xs.length ≤ cap) (hr : C.RowAt w ao xs) (hm : C.Magic w) (zs : List Int) (oe oa : Int) (hF : C.openS 1 xs = (zs, oe, oa)) (h0 : oe ≠ 0) :
    Calls Tryz.prog 21 #[.slice ao N cap] w fun e w' => e = .returned (.tuple #[.agg #[.slice none 0 0, .slice none 0 0, .int .i64 0, .slice none 0 0, .slice none 0 0], .int .i64 oe, .int .i64 oa]) ∧ Below w.heap.size w w' := by
  have HMG : ∀ w0 : World, Below w.heap.size w w0 → C.Magic w0 := fun w0 hb => C.Magic.later hm hb hm.lt
  have HRW : ∀ w0 : World, Below w.heap.size w w0 → C.RowAt w0 ao xs := fun w0 hb => C.RowAt.later hr hb
  have HOP : Hid (∀ w0 : World, Below w.heap.size w w0 → Calls Tryz.prog 78 #[.int .u8 1, .slice ao N cap] w0 fun e w' => ∃ a c, e = .returned (.tuple #[.slice a zs.length c, .int .i64 oe, .int .i64 oa]) ∧ C.RowAt w' a zs ∧ (a = none → c = 0) ∧ Below w0.heap.size w0 w') := fun w0 hb => (C.open_any 1 ao N cap _ w0 hN (by omega) (by omega) hl hcap (HMG w0 hb) (HRW w0 hb)).mono fun e w' he => by
    obtain ⟨v, rfl, ho, _, hb'⟩ := he
    rw [hF] at ho ⊢
    obtain ⟨a, c, rfl, hn, hr2⟩ := C.Own.row ho
    exact ⟨a, c, rfl, hr2, fun h => (hn h).2, hb'⟩
  have hNl : N ≤ 140737488355328 := by omega
  have he : (oe != 0) = true := by simpa using h0
  clear hN hl hcap hr hm HMG HRW hF h0
  go_enter Tryz.func21, Tryz.ntmps21
  go_wp2_with (first
    | (go_at_call 78; refine (HOP.out _ (by first | exact below_alloc _ _ | exact (two_alloc _ _ _).1 | exact Below.refl _ _)).mono ?_; rintro e w1 ⟨ba, bc, rfl, hr1', hc1', hb1'⟩; have R1 : Hid _ := hr1'; have C1 : Hid _ := hc1'; have B1 : Hid _ := hb1'; have ex1 : w1.heap[w.heap.size]? = some (.cells #[.slice none 0 0, .slice none 0 0, .int .i64 0, .slice none 0 0, .slice none 0 0] 26 (0, 0)) := (hb1'.block _ (lt_of_block (heap_alloc_new w _))).trans (heap_alloc_new w _); have x0 : w1.cell? ⟨w.heap.size, 0, none⟩ = some (.slice none 0 0) := (by rw [cellq_any ex1]; rfl); have y0 : w1.frozen? ⟨w.heap.size, 0, none⟩ = false := (by simp [World.frozen?, ex1]); have x1 : w1.cell? ⟨w.heap.size, 1, none⟩ = some (.slice none 0 0) := (by rw [cellq_any ex1]; rfl); have y1 : w1.frozen? ⟨w.heap.size, 1, none⟩ = false := (by simp [World.frozen?, ex1]); have x2 : w1.cell? ⟨w.heap.size, 2, none⟩ = some (.int .i64 0) := (by rw [cellq_any ex1]; rfl); have y2 : w1.frozen? ⟨w.heap.size, 2, none⟩ = false := (by simp [World.frozen?, ex1]); have x3 : w1.cell? ⟨w.heap.size, 3, none⟩ = some (.slice none 0 0) := (by rw [cellq_any ex1]; rfl); have y3 : w1.frozen? ⟨w.heap.size, 3, none⟩ = false := (by simp [World.frozen?, ex1]); have x4 : w1.cell? ⟨w.heap.size, 4, none⟩ = some (.slice none 0 0) := (by rw [cellq_any ex1]; rfl); have y4 : w1.frozen? ⟨w.heap.size, 4, none⟩ = false := (by simp [World.frozen?, ex1]); have hz5 : w.heap.size < w1.heap.size := lt_of_block ex1; clear hr1' hc1' hb1' ex1))
  have hb9 : Below w.heap.size w1 (((((w1.setCell ⟨w.heap.size, 0, none⟩ (.slice none 0 0)).setCell ⟨w.heap.size, 1, none⟩ (.slice none 0 0)).setCell ⟨w.heap.size, 2, none⟩ (.int .i64 0)).setCell ⟨w.heap.size, 3, none⟩ (.slice none 0 0)).setCell ⟨w.heap.size, 4, none⟩ (.slice none 0 0)) := ((((own_set _ _ _ (Nat.le_refl _)).trans (own_set _ _ _ (Nat.le_refl _))).trans (own_set _ _ _ (Nat.le_refl _))).trans (own_set _ _ _ (Nat.le_refl _))).trans (own_set _ _ _ (Nat.le_refl _))
  refine bodyPost_ret (v := .tuple #[.agg #[.slice none 0 0, .slice none 0 0, .int .i64 0, .slice none 0 0, .slice none 0 0], .int .i64 oe, .int .i64 (oa)]) (by simp [results, Tryz.results21, go_sem, x0, x1, x2, x3, x4]) rfl ?_
  have s0 := (below_alloc w (.cells #[.slice none 0 0, .slice none 0 0, .int .i64 0, .slice none 0 0, .slice none 0 0] 26)).size
  exact ⟨rfl, ((below_alloc w _).trans (B1.out.mono s0)).trans hb9⟩
set_option maxRecDepth 100000 in
set_option maxHeartbeats 4000000 in
theorem dec_end (w : World) (ao : Option Addr) (N cap : Nat) (xs : List Int) (hN : N = xs.length) (hl : xs.length ≤ 140737488355328) (hcap : xs.length ≤ cap) (hr : C.RowAt w ao xs) (hm : C.Magic w) (zs : List Int) (oa : Int) (hF : C.openS 1 xs = (zs, 0, oa)) (gc : GC) (P : Nat) (E : Int) (hG : grS zs 0 0 = (gc, P, E)) (ee ea : Int) (hEnd : C.endS zs P E = (ee, ea)) (h0 : ee ≠ 0) (hea : 0 ≤ ea ∧ ea ≤ 16777216) :
    Calls Tryz.prog 21 #[.slice ao N cap] w fun e w' => e = .returned (.tuple #[.agg #[.slice none 0 0, .slice none 0 0, .int .i64 0, .slice none 0 0, .slice none 0 0], .int .i64 ee, .int .i64 ((N : Int) - 4 - (zs.length : Int) + ea)]) ∧ Below w.heap.size w w' := by
  have HMG : ∀ w0 : World, Below w.heap.size w w0 → C.Magic w0 := fun w0 hb => C.Magic.later hm hb hm.lt
  have HRW : ∀ w0 : World, Below w.heap.size w w0 → C.RowAt w0 ao xs := fun w0 hb => C.RowAt.later hr hb
  have HOP : Hid (∀ w0 : World, Below w.heap.size w w0 → Calls Tryz.prog 78 #[.int .u8 1, .slice ao N cap] w0 fun e w' => ∃ a c, e = .returned (.tuple #[.slice a zs.length c, .int .i64 0, .int .i64 oa]) ∧ C.RowAt w' a zs ∧ (a = none → c = 0) ∧ Below w0.heap.size w0 w') := fun w0 hb => (C.open_any 1 ao N cap _ w0 hN (by omega) (by omega) hl hcap (HMG w0 hb) (HRW w0 hb)).mono fun e w' he => by
    obtain ⟨v, rfl, ho, _, hb'⟩ := he
    rw [hF] at ho ⊢
    obtain ⟨a, c, rfl, hn, hr2⟩ := C.Own.row ho
    exact ⟨a, c, rfl, hr2, fun h => (hn h).2, hb'⟩
  have hNl : N ≤ 140737488355328 := by omega
  have hzl : zs.length ≤ 16777216 := (C.frame_open 1 xs hr.1 zs oa hF).2.1
  have HZL : Hid (zs.length ≤ 16777216) := hzl
  have HGR : Hid (grS zs 0 0 = (gc, P, E)) := hG
  have HEND : Hid (C.endS zs P E = (ee, ea)) := hEnd
  have he : (ee != 0) = true := by simpa using h0
  have KEEP : Hid (∀ (w1 w2 w3 w4 w5 : World) (r : Nat), Below (w.alloc (.cells #[.slice none 0 0, .slice none 0 0, .int .i64 0, .slice none 0 0, .slice none 0 0] 26)).heap.size (w.alloc (.cells #[.slice none 0 0, .slice none 0 0, .int .i64 0, .slice none 0 0, .slice none 0 0] 26)) w1 → Below w1.heap.size w1 w2 → w1.heap.size ≤ r → C.ROnly w2 w3 r → Below w3.heap.size w3 w4 → Below w4.heap.size w4 w5 → w5.heap[w.heap.size]? = some (.cells #[.slice none 0 0, .slice none 0 0, .int .i64 0, .slice none 0 0, .slice none 0 0] 26 (0, 0))) := fun w1 w2 w3 w4 w5 r b1 b2 lr o3 b4 b5 => by
    have hs : w.heap.size < (w.alloc (.cells #[.slice none 0 0, .slice none 0 0, .int .i64 0, .slice none 0 0, .slice none 0 0] 26)).heap.size := lt_of_block (heap_alloc_new w _)
    have s1 := b1.size
    have s2 := b2.size
    have s3 := o3.size
    have s4 := b4.size
    rw [b5.block _ (by omega), b4.block _ (by omega), o3.block _ (by omega) (by omega), b2.block _ (by omega), b1.block _ hs]
    exact heap_alloc_new w _
  clear hN hl hcap hr hm HMG HRW hF h0 hG hEnd
  go_enter Tryz.func21, Tryz.ntmps21
  go_wp2_with (first
    | (go_at_call 78; refine (HOP.out _ (by first | exact below_alloc _ _ | exact (two_alloc _ _ _).1 | exact Below.refl _ _)).mono ?_; rintro e w1 ⟨ba, bc, rfl, hr1', hc1', hb1'⟩; have R1 : Hid _ := hr1'; have C1 : Hid _ := hc1'; have B1 : Hid _ := hb1'; clear hr1' hc1' hb1')
    | (go_at_call 79; refine (newreader_own ba _ bc zs w1 rfl (Nat.le_trans HZL.out (by omega)) R1.out C1.out).mono ?_; rintro e w2 ⟨r, ro, rN, rc, rfl, hR', hr', hg', hb'⟩; have R2 : Hid _ := hR'; have L2 : Hid _ := hr'; have G2 : Hid _ := hg'; have B2 : Hid _ := hb'; clear hR' hr' hg' hb')
    | (go_at_call 80; refine (xgram R2.out (fun g0 eg => (G2.out g0 eg).2) HZL.out gc P E HGR.out).mono ?_; rintro e w3 ⟨g', rfl, sm', dg', hR', ho'⟩; have SM : Hid (g'.core = gc) := sm'; have D3 : Hid _ := dg'; have R3 : Hid _ := hR'; have O3 : Hid _ := ho'; clear sm' dg' hR' ho')
    | (go_at_call 81; refine (C.rend_eq (R3.out.later (below_alloc w3 _)) ee ea HEND.out).mono ?_; rintro e w4 ⟨rfl, n4, hw4⟩; have bx4 : w4.heap[w3.heap.size]? = some (.cells #[.slice g'.ta g'.ts.length g'.tc, .slice g'.na g'.ns.length g'.nc, .int .i64 g'.start, .slice g'.pa g'.ps.length g'.pc, .slice g'.la g'.ls.length g'.lc] 26 (0, 0)) := (by rw [hw4]; exact heap_alloc_new w3 _); have B4 : Hid (Below w3.heap.size w3 w4) := (by rw [hw4]; exact below_drewN (below_alloc w3 _) n4); have X4 : Hid _ := bx4; have c0 : w4.cell? ⟨w3.heap.size, 0, none⟩ = some (.slice g'.ta g'.ts.length g'.tc) := (by rw [cellq_any bx4]; rfl); have c1 : w4.cell? ⟨w3.heap.size, 1, none⟩ = some (.slice g'.na g'.ns.length g'.nc) := (by rw [cellq_any bx4]; rfl); have c2 : w4.cell? ⟨w3.heap.size, 2, none⟩ = some (.int .i64 g'.start) := (by rw [cellq_any bx4]; rfl); have c3 : w4.cell? ⟨w3.heap.size, 3, none⟩ = some (.slice g'.pa g'.ps.length g'.pc) := (by rw [cellq_any bx4]; rfl); have c4 : w4.cell? ⟨w3.heap.size, 4, none⟩ = some (.slice g'.la g'.ls.length g'.lc) := (by rw [cellq_any bx4]; rfl); have e5 : w4.heap[w.heap.size]? = some (.cells #[.slice none 0 0, .slice none 0 0, .int .i64 0, .slice none 0 0, .slice none 0 0] 26 (0, 0)) := KEEP.out w1 w2 w3 w4 w4 r B1.out B2.out L2.out O3.out B4.out (Below.refl _ _); have x0 : w4.cell? ⟨w.heap.size, 0, none⟩ = some (.slice none 0 0) := (by rw [cellq_any e5]; rfl); have y0 : w4.frozen? ⟨w.heap.size, 0, none⟩ = false := (by simp [World.frozen?, e5]); have x1 : w4.cell? ⟨w.heap.size, 1, none⟩ = some (.slice none 0 0) := (by rw [cellq_any e5]; rfl); have y1 : w4.frozen? ⟨w.heap.size, 1, none⟩ = false := (by simp [World.frozen?, e5]); have x2 : w4.cell? ⟨w.heap.size, 2, none⟩ = some (.int .i64 0) := (by rw [cellq_any e5]; rfl); have y2 : w4.frozen? ⟨w.heap.size, 2, none⟩ = false := (by simp [World.frozen?, e5]); have x3 : w4.cell? ⟨w.heap.size, 3, none⟩ = some (.slice none 0 0) := (by rw [cellq_any e5]; rfl); have y3 : w4.frozen? ⟨w.heap.size, 3, none⟩ = false := (by simp [World.frozen?, e5]); have x4 : w4.cell? ⟨w.heap.size, 4, none⟩ = some (.slice none 0 0) := (by rw [cellq_any e5]; rfl); have y4 : w4.frozen? ⟨w.heap.size, 4, none⟩ = false := (by simp [World.frozen?, e5]); have hz5 : w.heap.size < w4.heap.size := lt_of_block e5; clear hw4 bx4 e5))
  have hb9 : Below w.heap.size w4 (((((w4.setCell ⟨w.heap.size, 0, none⟩ (.slice none 0 0)).setCell ⟨w.heap.size, 1, none⟩ (.slice none 0 0)).setCell ⟨w.heap.size, 2, none⟩ (.int .i64 0)).setCell ⟨w.heap.size, 3, none⟩ (.slice none 0 0)).setCell ⟨w.heap.size, 4, none⟩ (.slice none 0 0)) := ((((own_set _ _ _ (Nat.le_refl _)).trans (own_set _ _ _ (Nat.le_refl _))).trans (own_set _ _ _ (Nat.le_refl _))).trans (own_set _ _ _ (Nat.le_refl _))).trans (own_set _ _ _ (Nat.le_refl _))
  refine bodyPost_ret (v := .tuple #[.agg #[.slice none 0 0, .slice none 0 0, .int .i64 0, .slice none 0 0, .slice none 0 0], .int .i64 ee, .int .i64 ((N : Int) - 4 - (zs.length : Int) + ea)]) (by simp [results, Tryz.results21, go_sem, x0, x1, x2, x3, x4]) rfl ?_
  have s0 := (below_alloc w (.cells #[.slice none 0 0, .slice none 0 0, .int .i64 0, .slice none 0 0, .slice none 0 0] 26)).size
  have hs : w.heap.size < (w.alloc (.cells #[.slice none 0 0, .slice none 0 0, .int .i64 0, .slice none 0 0, .slice none 0 0] 26)).heap.size := lt_of_block (heap_alloc_new w _)
  have s1 := B1.out.size
  have s2 := B2.out.size
  have s3 := O3.out.size
  have s4 := B4.out.size
  have lr := L2.out
  exact ⟨rfl, (((((below_alloc w _).trans (B1.out.mono s0)).trans (B2.out.mono (Nat.le_trans s0 s1))).trans (O3.out.below (by omega) (by omega))).trans (B4.out.mono (by omega))).trans hb9⟩
set_option maxRecDepth 100000 in
set_option maxHeartbeats 4000000 in
theorem dec_chk (w : World) (ao : Option Addr) (N cap : Nat) (xs : List Int) (hN : N = xs.length) (hl : xs.length ≤ 140737488355328) (hcap : xs.length ≤ cap) (hr : C.RowAt w ao xs) (hm : C.Magic w) (zs : List Int) (oa : Int) (hF : C.openS 1 xs = (zs, 0, oa)) (gc : GC) (P : Nat) (E : Int) (hG : grS zs 0 0 = (gc, P, E)) (ea : Int) (hEnd : C.endS zs P E = (0, ea)) (ck at_ : Int) (hC : checkG (coreV gc) (checkF (coreV gc).ts (coreV gc).ns) = (ck, at_)) (h0 : ck ≠ 0) :
    Calls Tryz.prog 21 #[.slice ao N cap] w fun e w' => e = .returned (.tuple #[.agg #[.slice none 0 0, .slice none 0 0, .int .i64 0, .slice none 0 0, .slice none 0 0], .int .i64 ck, .int .i64 ((N : Int) - 4 - (zs.length : Int))]) ∧ Below w.heap.size w w' := by
  have HMG : ∀ w0 : World, Below w.heap.size w w0 → C.Magic w0 := fun w0 hb => C.Magic.later hm hb hm.lt
  have HRW : ∀ w0 : World, Below w.heap.size w w0 → C.RowAt w0 ao xs := fun w0 hb => C.RowAt.later hr hb
  have HOP : Hid (∀ w0 : World, Below w.heap.size w w0 → Calls Tryz.prog 78 #[.int .u8 1, .slice ao N cap] w0 fun e w' => ∃ a c, e = .returned (.tuple #[.slice a zs.length c, .int .i64 0, .int .i64 oa]) ∧ C.RowAt w' a zs ∧ (a = none → c = 0) ∧ Below w0.heap.size w0 w') := fun w0 hb => (C.open_any 1 ao N cap _ w0 hN (by omega) (by omega) hl hcap (HMG w0 hb) (HRW w0 hb)).mono fun e w' he => by
    obtain ⟨v, rfl, ho, _, hb'⟩ := he
    rw [hF] at ho ⊢
    obtain ⟨a, c, rfl, hn, hr2⟩ := C.Own.row ho
    exact ⟨a, c, rfl, hr2, fun h => (hn h).2, hb'⟩
  have hNl : N ≤ 140737488355328 := by omega
  have hzl : zs.length ≤ 16777216 := (C.frame_open 1 xs hr.1 zs oa hF).2.1
  have HZL : Hid (zs.length ≤ 16777216) := hzl
  have HGR : Hid (grS zs 0 0 = (gc, P, E)) := hG
  have HEND : Hid (C.endS zs P E = (0, ea)) := hEnd
  have hbz : C.isBytes zs := (C.frame_open 1 xs hr.1 zs oa hF).2.2.1
  have HAT : Hid (∀ (B : Nat) (w : World) (g : GV), g.core = gc → DG B w g → GAt 140737488355328 w g ∧ g.ps.length ≤ g.pc) := fun B w g e d => d.at2 (n := zs.length) (by rw [e]; have := bdC_gr hbz 0 0 (Nat.zero_le _); rw [hG] at this; exact this) (by omega)
  have HCK : Hid (checkG (coreV gc) (checkF (coreV gc).ts (coreV gc).ns) = (ck, at_)) := hC
  have he : (ck != 0) = true := by simpa using h0
  have KEEP : Hid (∀ (w1 w2 w3 w4 w5 : World) (r : Nat), Below (w.alloc (.cells #[.slice none 0 0, .slice none 0 0, .int .i64 0, .slice none 0 0, .slice none 0 0] 26)).heap.size (w.alloc (.cells #[.slice none 0 0, .slice none 0 0, .int .i64 0, .slice none 0 0, .slice none 0 0] 26)) w1 → Below w1.heap.size w1 w2 → w1.heap.size ≤ r → C.ROnly w2 w3 r → Below w3.heap.size w3 w4 → Below w4.heap.size w4 w5 → w5.heap[w.heap.size]? = some (.cells #[.slice none 0 0, .slice none 0 0, .int .i64 0, .slice none 0 0, .slice none 0 0] 26 (0, 0))) := fun w1 w2 w3 w4 w5 r b1 b2 lr o3 b4 b5 => by
    have hs : w.heap.size < (w.alloc (.cells #[.slice none 0 0, .slice none 0 0, .int .i64 0, .slice none 0 0, .slice none 0 0] 26)).heap.size := lt_of_block (heap_alloc_new w _)
    have s1 := b1.size
    have s2 := b2.size
    have s3 := o3.size
    have s4 := b4.size
    rw [b5.block _ (by omega), b4.block _ (by omega), o3.block _ (by omega) (by omega), b2.block _ (by omega), b1.block _ hs]
    exact heap_alloc_new w _
  clear hN hl hcap hr hm HMG HRW hF h0 hG hEnd hC hbz
  go_enter Tryz.func21, Tryz.ntmps21
  go_wp2_with (first
    | (go_at_call 78; refine (HOP.out _ (by first | exact below_alloc _ _ | exact (two_alloc _ _ _).1 | exact Below.refl _ _)).mono ?_; rintro e w1 ⟨ba, bc, rfl, hr1', hc1', hb1'⟩; have R1 : Hid _ := hr1'; have C1 : Hid _ := hc1'; have B1 : Hid _ := hb1'; clear hr1' hc1' hb1')
    | (go_at_call 79; refine (newreader_own ba _ bc zs w1 rfl (Nat.le_trans HZL.out (by omega)) R1.out C1.out).mono ?_; rintro e w2 ⟨r, ro, rN, rc, rfl, hR', hr', hg', hb'⟩; have R2 : Hid _ := hR'; have L2 : Hid _ := hr'; have G2 : Hid _ := hg'; have B2 : Hid _ := hb'; clear hR' hr' hg' hb')
    | (go_at_call 80; refine (xgram R2.out (fun g0 eg => (G2.out g0 eg).2) HZL.out gc P E HGR.out).mono ?_; rintro e w3 ⟨g', rfl, sm', dg', hR', ho'⟩; have SM : Hid (g'.core = gc) := sm'; have D3 : Hid _ := dg'; have R3 : Hid _ := hR'; have O3 : Hid _ := ho'; clear sm' dg' hR' ho')
    | (go_at_call 81; refine (C.rend_eq (R3.out.later (below_alloc w3 _)) 0 ea HEND.out).mono ?_; rintro e w4 ⟨rfl, n4, hw4⟩; have bx4 : w4.heap[w3.heap.size]? = some (.cells #[.slice g'.ta g'.ts.length g'.tc, .slice g'.na g'.ns.length g'.nc, .int .i64 g'.start, .slice g'.pa g'.ps.length g'.pc, .slice g'.la g'.ls.length g'.lc] 26 (0, 0)) := (by rw [hw4]; exact heap_alloc_new w3 _); have B4 : Hid (Below w3.heap.size w3 w4) := (by rw [hw4]; exact below_drewN (below_alloc w3 _) n4); have X4 : Hid _ := bx4; have c0 : w4.cell? ⟨w3.heap.size, 0, none⟩ = some (.slice g'.ta g'.ts.length g'.tc) := (by rw [cellq_any bx4]; rfl); have c1 : w4.cell? ⟨w3.heap.size, 1, none⟩ = some (.slice g'.na g'.ns.length g'.nc) := (by rw [cellq_any bx4]; rfl); have c2 : w4.cell? ⟨w3.heap.size, 2, none⟩ = some (.int .i64 g'.start) := (by rw [cellq_any bx4]; rfl); have c3 : w4.cell? ⟨w3.heap.size, 3, none⟩ = some (.slice g'.pa g'.ps.length g'.pc) := (by rw [cellq_any bx4]; rfl); have c4 : w4.cell? ⟨w3.heap.size, 4, none⟩ = some (.slice g'.la g'.ls.length g'.lc) := (by rw [cellq_any bx4]; rfl); clear hw4 bx4)
    | (go_at_call 25; refine (check_G g' w4 ((HAT.out _ _ _ SM.out D3.out).1.later B4.out) (HAT.out _ _ _ SM.out D3.out).2 ck at_ ((same_check (same_coreV SM.out)).trans HCK.out)).mono ?_; rintro e w5 ⟨rfl, hb5'⟩; have B5 : Hid _ := hb5'; have bx5 := (hb5'.block _ (lt_of_block X4.out)).trans X4.out; clear c0 c1 c2 c3 c4; have c0 : w5.cell? ⟨w3.heap.size, 0, none⟩ = some (.slice g'.ta g'.ts.length g'.tc) := (by rw [cellq_any bx5]; rfl); have c1 : w5.cell? ⟨w3.heap.size, 1, none⟩ = some (.slice g'.na g'.ns.length g'.nc) := (by rw [cellq_any bx5]; rfl); have c2 : w5.cell? ⟨w3.heap.size, 2, none⟩ = some (.int .i64 g'.start) := (by rw [cellq_any bx5]; rfl); have c3 : w5.cell? ⟨w3.heap.size, 3, none⟩ = some (.slice g'.pa g'.ps.length g'.pc) := (by rw [cellq_any bx5]; rfl); have c4 : w5.cell? ⟨w3.heap.size, 4, none⟩ = some (.slice g'.la g'.ls.length g'.lc) := (by rw [cellq_any bx5]; rfl); have e5 : w5.heap[w.heap.size]? = some (.cells #[.slice none 0 0, .slice none 0 0, .int .i64 0, .slice none 0 0, .slice none 0 0] 26 (0, 0)) := KEEP.out w1 w2 w3 w4 w5 r B1.out B2.out L2.out O3.out B4.out B5.out; have x0 : w5.cell? ⟨w.heap.size, 0, none⟩ = some (.slice none 0 0) := (by rw [cellq_any e5]; rfl); have y0 : w5.frozen? ⟨w.heap.size, 0, none⟩ = false := (by simp [World.frozen?, e5]); have x1 : w5.cell? ⟨w.heap.size, 1, none⟩ = some (.slice none 0 0) := (by rw [cellq_any e5]; rfl); have y1 : w5.frozen? ⟨w.heap.size, 1, none⟩ = false := (by simp [World.frozen?, e5]); have x2 : w5.cell? ⟨w.heap.size, 2, none⟩ = some (.int .i64 0) := (by rw [cellq_any e5]; rfl); have y2 : w5.frozen? ⟨w.heap.size, 2, none⟩ = false := (by simp [World.frozen?, e5]); have x3 : w5.cell? ⟨w.heap.size, 3, none⟩ = some (.slice none 0 0) := (by rw [cellq_any e5]; rfl); have y3 : w5.frozen? ⟨w.heap.size, 3, none⟩ = false := (by simp [World.frozen?, e5]); have x4 : w5.cell? ⟨w.heap.size, 4, none⟩ = some (.slice none 0 0) := (by rw [cellq_any e5]; rfl); have y4 : w5.frozen? ⟨w.heap.size, 4, none⟩ = false := (by simp [World.frozen?, e5]); have hz5 : w.heap.size < w5.heap.size := lt_of_block e5; have hz6 : w3.heap.size < w5.heap.size := lt_of_block bx5; clear bx5 e5 hb5'))
  have hb9 : Below w.heap.size w5 (((((w5.setCell ⟨w.heap.size, 0, none⟩ (.slice none 0 0)).setCell ⟨w.heap.size, 1, none⟩ (.slice none 0 0)).setCell ⟨w.heap.size, 2, none⟩ (.int .i64 0)).setCell ⟨w.heap.size, 3, none⟩ (.slice none 0 0)).setCell ⟨w.heap.size, 4, none⟩ (.slice none 0 0)) := ((((own_set _ _ _ (Nat.le_refl _)).trans (own_set _ _ _ (Nat.le_refl _))).trans (own_set _ _ _ (Nat.le_refl _))).trans (own_set _ _ _ (Nat.le_refl _))).trans (own_set _ _ _ (Nat.le_refl _))
  refine bodyPost_ret (v := .tuple #[.agg #[.slice none 0 0, .slice none 0 0, .int .i64 0, .slice none 0 0, .slice none 0 0], .int .i64 ck, .int .i64 ((N : Int) - 4 - (zs.length : Int))]) (by simp [results, Tryz.results21, go_sem, x0, x1, x2, x3, x4]) rfl ?_
  have s0 := (below_alloc w (.cells #[.slice none 0 0, .slice none 0 0, .int .i64 0, .slice none 0 0, .slice none 0 0] 26)).size
  have hs : w.heap.size < (w.alloc (.cells #[.slice none 0 0, .slice none 0 0, .int .i64 0, .slice none 0 0, .slice none 0 0] 26)).heap.size := lt_of_block (heap_alloc_new w _)
  have s1 := B1.out.size
  have s2 := B2.out.size
  have s3 := O3.out.size
  have s4 := B4.out.size
  have lr := L2.out
  exact ⟨rfl, ((((((below_alloc w _).trans (B1.out.mono s0)).trans (B2.out.mono (Nat.le_trans s0 s1))).trans (O3.out.below (by omega) (by omega))).trans (B4.out.mono (by omega))).trans (B5.out.mono (by omega))).trans hb9⟩
end Go.Proofs.YtmkakdfdfdcncaaGreatDoor
