import Derived.Test.YtmkakdfdfdcncaaGreatDoorPGQ4
import Derived.Test.YtmkakdfdfdcncaaGreatDoorPRefRToRefOpenG
import Derived.Test.YtmkakdfdfdcncaaGreatDoorPGCheckR
namespace Go.Proofs.YtmkakdfdfdcncaaGreatDoor
set_option linter.unusedVariables false
set_option maxRecDepth 100000
set_option maxHeartbeats 16000000
open Go.RowKit
theorem qinv_newG (w : World) (ao : Option Addr) (cap : Nat) (xs : List Int) (hl : xs.length <= 140737488355328) (hr : C.RowAt w ao xs) (hlt : ∀ b off, ao = some ⟨b, off, none⟩ -> xs ≠ [] -> b < w.heap.size) :
  C.QInv (w.alloc (.cells #[.slice ao xs.length cap, .int .i64 0, .int .i64 0, .int .i64 0] 153)) w.heap.size ao cap xs 0 0 := by
 refine ⟨?_, C.RowAt.later hr (below_alloc w _), Nat.zero_le _, hl, fun b off e hn => Nat.ne_of_lt (hlt b off e hn)⟩
 have := heap_alloc_new w (.cells #[.slice ao xs.length cap, .int .i64 0, .int .i64 0, .int .i64 0] 153)
 simpa [C.spotS] using this
theorem row_ltG {w : World} {ao : Option Addr} {xs : List Int} (hr : C.RowAt w ao xs) : ∀ b off, ao = some ⟨b, off, none⟩ -> xs ≠ [] -> b < w.heap.size := fun b off e hn => by
 obtain ⟨b', off', e', hc⟩ := hr.2 hn
 rw [e] at e'
 cases e'
 have h0 : 0 < xs.length := List.length_pos_iff.2 hn
 exact World.block_lt_of_cell? _ _ (hc 0 h0)
theorem qopen (ao : Option Addr) (N cap : Nat) (xs : List Int) (w : World) (hN : N = xs.length) (hl : xs.length <= 140737488355328) (hcap : xs.length <= cap) (hr : C.RowAt w ao xs) (hn : ao = none -> cap = 0) (zs : List Int) (oe oa : Int) (hF : C.openS 1 xs = (zs, oe, oa)) :
  Calls Tryz.prog 84 #[.int .u8 1, .slice ao N cap] w fun e w' => ∃ a c, e = .returned (.tuple #[.slice a zs.length c, .int .i64 oe, .int .i64 oa]) /\ C.RowAt w' a zs /\ zs.length <= c /\ Below w.heap.size w w' := by
 refine (C.refopen_any 1 ao N cap xs w hN (by omega) (by omega) hl hcap hr hn).mono fun e w' he => ?_
 obtain ⟨v, rfl, ho, _, hb'⟩ := he
 rw [hF] at ho ⊢
 obtain ⟨a, c, rfl, hn, hr2⟩ := C.Own.row ho
 exact ⟨a, c, rfl, hr2, C.own_cap ho, hb'⟩
theorem qdec_open (w : World) (ao : Option Addr) (N cap : Nat) (xs : List Int) (hN : N = xs.length) (hl : xs.length <= 140737488355328) (hcap : xs.length <= cap) (hr : C.RowAt w ao xs) (hna : ao = none -> cap = 0) (zs : List Int) (oe oa : Int) (hF : C.openS 1 xs = (zs, oe, oa)) (h0 : oe ≠ 0) :
  Calls Tryz.prog 23 #[.slice ao N cap] w fun e w' => e = .returned (.tuple #[.agg #[.slice none 0 0, .slice none 0 0, .int .i64 0, .slice none 0 0, .slice none 0 0], .int .i64 oe, .int .i64 oa]) /\ Below w.heap.size w w' := by
 have HOP : Hid (∀ w0 : World, Below w.heap.size w w0 -> Calls Tryz.prog 84 #[.int .u8 1, .slice ao N cap] w0 fun e w' => ∃ a c, e = .returned (.tuple #[.slice a zs.length c, .int .i64 oe, .int .i64 oa]) /\ C.RowAt w' a zs /\ zs.length <= c /\ Below w0.heap.size w0 w') := fun w0 hb => qopen ao N cap xs w0 hN hl hcap (C.RowAt.later hr hb) hna zs oe oa hF
 have hNl : N <= 140737488355328 := by omega
 have he : (oe != 0) = true := by simpa using h0
 clear hN hl hcap hr hna hF h0
 go_enter Tryz.func23, Tryz.ntmps23
 go_wp2_with (first
  | (go_at_call 84; refine (HOP.out _ (by first | exact below_alloc _ _ | exact (two_alloc _ _ _).1 | exact Below.refl _ _)).mono ?_; rintro e w1 ⟨ba, bc, rfl, hr1', hc1', hb1'⟩; have R1 : Hid (C.RowAt w1 ba zs) := hr1'; have C1 : Hid (zs.length <= bc) := hc1'; have B1 : Hid (Below (w.alloc (.cells #[.slice none 0 0, .slice none 0 0, .int .i64 0, .slice none 0 0, .slice none 0 0] 26)).heap.size (w.alloc (.cells #[.slice none 0 0, .slice none 0 0, .int .i64 0, .slice none 0 0, .slice none 0 0] 26)) w1) := hb1'; have E1 : Hid (w1.heap[w.heap.size]? = some (.cells #[.slice none 0 0, .slice none 0 0, .int .i64 0, .slice none 0 0, .slice none 0 0] 26)) := (hb1'.block _ (lt_of_block (heap_alloc_new w _))).trans (heap_alloc_new w _); obtain ⟨x0, x1, x2, x3, x4, -, -⟩ := box_cells E1.out; have y0 : w1.frozen? ⟨w.heap.size, 0, none⟩ = false := (by simp [World.frozen?, E1.out]); have y1 : w1.frozen? ⟨w.heap.size, 1, none⟩ = false := (by simp [World.frozen?, E1.out]); have y2 : w1.frozen? ⟨w.heap.size, 2, none⟩ = false := (by simp [World.frozen?, E1.out]); have y3 : w1.frozen? ⟨w.heap.size, 3, none⟩ = false := (by simp [World.frozen?, E1.out]); have y4 : w1.frozen? ⟨w.heap.size, 4, none⟩ = false := (by simp [World.frozen?, E1.out]); have hz5 : w.heap.size < w1.heap.size := lt_of_block E1.out; clear hr1' hc1' hb1'))
 have s0 := (below_alloc w (.cells #[.slice none 0 0, .slice none 0 0, .int .i64 0, .slice none 0 0, .slice none 0 0] 26)).size
 have hb9 : Below w.heap.size w1 (((((w1.setCell ⟨w.heap.size, 0, none⟩ (.slice none 0 0)).setCell ⟨w.heap.size, 1, none⟩ (.slice none 0 0)).setCell ⟨w.heap.size, 2, none⟩ (.int .i64 0)).setCell ⟨w.heap.size, 3, none⟩ (.slice none 0 0)).setCell ⟨w.heap.size, 4, none⟩ (.slice none 0 0)) := ((((own_set _ _ _ (Nat.le_refl _)).trans (own_set _ _ _ (Nat.le_refl _))).trans (own_set _ _ _ (Nat.le_refl _))).trans (own_set _ _ _ (Nat.le_refl _))).trans (own_set _ _ _ (Nat.le_refl _))
 refine bodyPost_ret (v := .tuple #[.agg #[.slice none 0 0, .slice none 0 0, .int .i64 0, .slice none 0 0, .slice none 0 0], .int .i64 oe, .int .i64 (oa)]) (by simp [results, Tryz.results23, go_sem, x0, x1, x2, x3, x4]) rfl ?_
 exact ⟨rfl, ((below_alloc w _).trans (B1.out.mono s0)).trans hb9⟩
theorem qdec_end (w : World) (ao : Option Addr) (N cap : Nat) (xs : List Int) (hN : N = xs.length) (hl : xs.length <= 140737488355328) (hcap : xs.length <= cap) (hr : C.RowAt w ao xs) (hna : ao = none -> cap = 0) (zs : List Int) (oa : Int) (hF : C.openS 1 xs = (zs, 0, oa)) (gc : GC) (P : Nat) (E : Int) (hG : grQ zs 0 0 = (gc, P, E)) (ee ea : Int) (hEnd : C.endS zs P E = (ee, ea)) (h0 : ee ≠ 0) (hea : 0 <= ea /\ ea <= 16777216) :
  Calls Tryz.prog 23 #[.slice ao N cap] w fun e w' => e = .returned (.tuple #[.agg #[.slice none 0 0, .slice none 0 0, .int .i64 0, .slice none 0 0, .slice none 0 0], .int .i64 ee, .int .i64 ((N : Int) - 4 - (zs.length : Int) + ea)]) /\ Below w.heap.size w w' := by
 have HOP : Hid (∀ w0 : World, Below w.heap.size w w0 -> Calls Tryz.prog 84 #[.int .u8 1, .slice ao N cap] w0 fun e w' => ∃ a c, e = .returned (.tuple #[.slice a zs.length c, .int .i64 0, .int .i64 oa]) /\ C.RowAt w' a zs /\ zs.length <= c /\ Below w0.heap.size w0 w') := fun w0 hb => qopen ao N cap xs w0 hN hl hcap (C.RowAt.later hr hb) hna zs 0 oa hF
 have hNl : N <= 140737488355328 := by omega
 have hzl : zs.length <= 16777216 := (C.frame_open 1 xs hr.1 zs oa hF).2.1
 have HZL : Hid (zs.length <= 16777216) := hzl
 have HGR : Hid (grQ zs 0 0 = (gc, P, E)) := hG
 have HEND : Hid (C.endS zs P E = (ee, ea)) := hEnd
 have he : (ee != 0) = true := by simpa using h0
 have KEEP : Hid (∀ (w1 w3 w4 : World) (ba : Option Addr) (bc : Nat), w1.heap[w.heap.size]? = some (.cells #[.slice none 0 0, .slice none 0 0, .int .i64 0, .slice none 0 0, .slice none 0 0] 26) -> Below (w.alloc (.cells #[.slice none 0 0, .slice none 0 0, .int .i64 0, .slice none 0 0, .slice none 0 0] 26)).heap.size (w.alloc (.cells #[.slice none 0 0, .slice none 0 0, .int .i64 0, .slice none 0 0, .slice none 0 0] 26)) w1 -> C.ROnly (w1.alloc (.cells #[.slice ba zs.length bc, .int .i64 0, .int .i64 0, .int .i64 0] 153)) w3 w1.heap.size -> Below w3.heap.size w3 w4 -> w4.heap[w.heap.size]? = some (.cells #[.slice none 0 0, .slice none 0 0, .int .i64 0, .slice none 0 0, .slice none 0 0] 26)) := fun w1 w3 w4 ba bc e1 b1 o3 b4 => by
  have h1 := lt_of_block e1
  have s1 := (below_alloc w1 (.cells #[.slice ba zs.length bc, .int .i64 0, .int .i64 0, .int .i64 0] 153)).size
  have s3 := o3.size
  rw [b4.block _ (by omega), o3.block _ (by omega) (by omega), (below_alloc w1 (.cells #[.slice ba zs.length bc, .int .i64 0, .int .i64 0, .int .i64 0] 153)).block _ h1]
  exact e1
 clear hN hl hcap hr hna hF h0 hG hEnd
 go_enter Tryz.func23, Tryz.ntmps23
 go_wp2_with (first
  | (go_at_call 84; refine (HOP.out _ (by first | exact below_alloc _ _ | exact (two_alloc _ _ _).1 | exact Below.refl _ _)).mono ?_; rintro e w1 ⟨ba, bc, rfl, hr1', hc1', hb1'⟩; have R1 : Hid (C.RowAt w1 ba zs) := hr1'; have C1 : Hid (zs.length <= bc) := hc1'; have B1 : Hid (Below (w.alloc (.cells #[.slice none 0 0, .slice none 0 0, .int .i64 0, .slice none 0 0, .slice none 0 0] 26)).heap.size (w.alloc (.cells #[.slice none 0 0, .slice none 0 0, .int .i64 0, .slice none 0 0, .slice none 0 0] 26)) w1) := hb1'; have E1 : Hid (w1.heap[w.heap.size]? = some (.cells #[.slice none 0 0, .slice none 0 0, .int .i64 0, .slice none 0 0, .slice none 0 0] 26)) := (hb1'.block _ (lt_of_block (heap_alloc_new w _))).trans (heap_alloc_new w _); clear hr1' hc1' hb1')
  | (go_at_call 85; refine (qgram (qinv_newG w1 ba bc zs (Nat.le_trans HZL.out (by omega)) R1.out (row_ltG R1.out)) C1.out (fun b off eb hn => Nat.lt_of_lt_of_le (row_ltG R1.out b off eb hn) (below_alloc _ _).size) HZL.out gc P E HGR.out).mono ?_; rintro e w3 ⟨g', rfl, sm', dg', hR', ho'⟩; have SM : Hid (g'.core = gc) := sm'; have D3 : Hid (DG (w1.alloc (.cells #[.slice ba zs.length bc, .int .i64 0, .int .i64 0, .int .i64 0] 153)).heap.size w3 g') := dg'; have R3 : Hid (C.QInv w3 w1.heap.size ba bc zs P E) := hR'; have O3 : Hid (C.ROnly (w1.alloc (.cells #[.slice ba zs.length bc, .int .i64 0, .int .i64 0, .int .i64 0] 153)) w3 w1.heap.size) := ho'; clear sm' dg' hR' ho')
  | (go_at_call 86; refine (C.qend (R3.out.later (below_alloc w3 _)) ee ea HEND.out).mono ?_; rintro e w4 ⟨rfl, n4, hw4⟩; have X4 : Hid (w4.heap[w3.heap.size]? = some (gBox g')) := (by rw [hw4]; exact heap_alloc_new w3 (gBox g')); have B4 : Hid (Below w3.heap.size w3 w4) := (by rw [hw4]; exact below_drewN (below_alloc w3 _) n4); have E4 : Hid (w4.heap[w.heap.size]? = some (.cells #[.slice none 0 0, .slice none 0 0, .int .i64 0, .slice none 0 0, .slice none 0 0] 26)) := KEEP.out w1 w3 w4 ba bc E1.out B1.out O3.out B4.out; obtain ⟨c0, c1, c2, c3, c4, -, -⟩ := box_cells X4.out; obtain ⟨x0, x1, x2, x3, x4, -, -⟩ := box_cells E4.out; have y0 : w4.frozen? ⟨w.heap.size, 0, none⟩ = false := (by simp [World.frozen?, E4.out]); have y1 : w4.frozen? ⟨w.heap.size, 1, none⟩ = false := (by simp [World.frozen?, E4.out]); have y2 : w4.frozen? ⟨w.heap.size, 2, none⟩ = false := (by simp [World.frozen?, E4.out]); have y3 : w4.frozen? ⟨w.heap.size, 3, none⟩ = false := (by simp [World.frozen?, E4.out]); have y4 : w4.frozen? ⟨w.heap.size, 4, none⟩ = false := (by simp [World.frozen?, E4.out]); have hz5 : w.heap.size < w4.heap.size := lt_of_block E4.out; clear hw4))
 have s0 := (below_alloc w (.cells #[.slice none 0 0, .slice none 0 0, .int .i64 0, .slice none 0 0, .slice none 0 0] 26)).size
 have hs : w.heap.size < (w.alloc (.cells #[.slice none 0 0, .slice none 0 0, .int .i64 0, .slice none 0 0, .slice none 0 0] 26)).heap.size := lt_of_block (heap_alloc_new w _)
 have s1 := B1.out.size
 have s2 := (below_alloc w1 (.cells #[.slice ba zs.length bc, .int .i64 0, .int .i64 0, .int .i64 0] 153)).size
 have s3 := O3.out.size
 have s4 := B4.out.size
 have hb9 : Below w.heap.size w4 (((((w4.setCell ⟨w.heap.size, 0, none⟩ (.slice none 0 0)).setCell ⟨w.heap.size, 1, none⟩ (.slice none 0 0)).setCell ⟨w.heap.size, 2, none⟩ (.int .i64 0)).setCell ⟨w.heap.size, 3, none⟩ (.slice none 0 0)).setCell ⟨w.heap.size, 4, none⟩ (.slice none 0 0)) := ((((own_set _ _ _ (Nat.le_refl _)).trans (own_set _ _ _ (Nat.le_refl _))).trans (own_set _ _ _ (Nat.le_refl _))).trans (own_set _ _ _ (Nat.le_refl _))).trans (own_set _ _ _ (Nat.le_refl _))
 refine bodyPost_ret (v := .tuple #[.agg #[.slice none 0 0, .slice none 0 0, .int .i64 0, .slice none 0 0, .slice none 0 0], .int .i64 ee, .int .i64 ((N : Int) - 4 - (zs.length : Int) + ea)]) (by simp [results, Tryz.results23, go_sem, x0, x1, x2, x3, x4]) rfl ?_
 exact ⟨rfl, (((((below_alloc w _).trans (B1.out.mono s0)).trans ((below_alloc w1 (.cells #[.slice ba zs.length bc, .int .i64 0, .int .i64 0, .int .i64 0] 153)).mono (Nat.le_trans s0 s1))).trans (O3.out.below (by omega) (by omega))).trans (B4.out.mono (by omega))).trans hb9⟩
theorem qdec_chk (w : World) (ao : Option Addr) (N cap : Nat) (xs : List Int) (hN : N = xs.length) (hl : xs.length <= 140737488355328) (hcap : xs.length <= cap) (hr : C.RowAt w ao xs) (hna : ao = none -> cap = 0) (zs : List Int) (oa : Int) (hF : C.openS 1 xs = (zs, 0, oa)) (gc : GC) (P : Nat) (E : Int) (hG : grQ zs 0 0 = (gc, P, E)) (hBd : BdC zs.length gc) (ea : Int) (hEnd : C.endS zs P E = (0, ea)) (ck at_ : Int) (hC : checkG (coreV gc) (checkF (coreV gc).ts (coreV gc).ns) = (ck, at_)) (h0 : ck ≠ 0) :
  Calls Tryz.prog 23 #[.slice ao N cap] w fun e w' => e = .returned (.tuple #[.agg #[.slice none 0 0, .slice none 0 0, .int .i64 0, .slice none 0 0, .slice none 0 0], .int .i64 ck, .int .i64 ((N : Int) - 4 - (zs.length : Int))]) /\ Below w.heap.size w w' := by
 have HOP : Hid (∀ w0 : World, Below w.heap.size w w0 -> Calls Tryz.prog 84 #[.int .u8 1, .slice ao N cap] w0 fun e w' => ∃ a c, e = .returned (.tuple #[.slice a zs.length c, .int .i64 0, .int .i64 oa]) /\ C.RowAt w' a zs /\ zs.length <= c /\ Below w0.heap.size w0 w') := fun w0 hb => qopen ao N cap xs w0 hN hl hcap (C.RowAt.later hr hb) hna zs 0 oa hF
 have hNl : N <= 140737488355328 := by omega
 have hzl : zs.length <= 16777216 := (C.frame_open 1 xs hr.1 zs oa hF).2.1
 have HZL : Hid (zs.length <= 16777216) := hzl
 have HGR : Hid (grQ zs 0 0 = (gc, P, E)) := hG
 have HEND : Hid (C.endS zs P E = (0, ea)) := hEnd
 have hbz : C.isBytes zs := (C.frame_open 1 xs hr.1 zs oa hF).2.2.1
 have HAT : Hid (∀ (B : Nat) (w : World) (g : GV), g.core = gc -> DG B w g -> GAt 140737488355328 w g /\ g.ps.length <= g.pc) := fun B w g e d => d.at2 (n := zs.length) (by rw [e]; exact hBd) (by omega)
 have HCK : Hid (checkG (coreV gc) (checkF (coreV gc).ts (coreV gc).ns) = (ck, at_)) := hC
 have he : (ck != 0) = true := by simpa using h0
 have KEEP : Hid (∀ (w1 w3 w4 : World) (ba : Option Addr) (bc : Nat), w1.heap[w.heap.size]? = some (.cells #[.slice none 0 0, .slice none 0 0, .int .i64 0, .slice none 0 0, .slice none 0 0] 26) -> Below (w.alloc (.cells #[.slice none 0 0, .slice none 0 0, .int .i64 0, .slice none 0 0, .slice none 0 0] 26)).heap.size (w.alloc (.cells #[.slice none 0 0, .slice none 0 0, .int .i64 0, .slice none 0 0, .slice none 0 0] 26)) w1 -> C.ROnly (w1.alloc (.cells #[.slice ba zs.length bc, .int .i64 0, .int .i64 0, .int .i64 0] 153)) w3 w1.heap.size -> Below w3.heap.size w3 w4 -> w4.heap[w.heap.size]? = some (.cells #[.slice none 0 0, .slice none 0 0, .int .i64 0, .slice none 0 0, .slice none 0 0] 26)) := fun w1 w3 w4 ba bc e1 b1 o3 b4 => by
  have h1 := lt_of_block e1
  have s1 := (below_alloc w1 (.cells #[.slice ba zs.length bc, .int .i64 0, .int .i64 0, .int .i64 0] 153)).size
  have s3 := o3.size
  rw [b4.block _ (by omega), o3.block _ (by omega) (by omega), (below_alloc w1 (.cells #[.slice ba zs.length bc, .int .i64 0, .int .i64 0, .int .i64 0] 153)).block _ h1]
  exact e1
 clear hN hl hcap hr hna hF h0 hG hEnd hC hbz hBd
 go_enter Tryz.func23, Tryz.ntmps23
 go_wp2_with (first
  | (go_at_call 84; refine (HOP.out _ (by first | exact below_alloc _ _ | exact (two_alloc _ _ _).1 | exact Below.refl _ _)).mono ?_; rintro e w1 ⟨ba, bc, rfl, hr1', hc1', hb1'⟩; have R1 : Hid (C.RowAt w1 ba zs) := hr1'; have C1 : Hid (zs.length <= bc) := hc1'; have B1 : Hid (Below (w.alloc (.cells #[.slice none 0 0, .slice none 0 0, .int .i64 0, .slice none 0 0, .slice none 0 0] 26)).heap.size (w.alloc (.cells #[.slice none 0 0, .slice none 0 0, .int .i64 0, .slice none 0 0, .slice none 0 0] 26)) w1) := hb1'; have E1 : Hid (w1.heap[w.heap.size]? = some (.cells #[.slice none 0 0, .slice none 0 0, .int .i64 0, .slice none 0 0, .slice none 0 0] 26)) := (hb1'.block _ (lt_of_block (heap_alloc_new w _))).trans (heap_alloc_new w _); clear hr1' hc1' hb1')
  | (go_at_call 85; refine (qgram (qinv_newG w1 ba bc zs (Nat.le_trans HZL.out (by omega)) R1.out (row_ltG R1.out)) C1.out (fun b off eb hn => Nat.lt_of_lt_of_le (row_ltG R1.out b off eb hn) (below_alloc _ _).size) HZL.out gc P E HGR.out).mono ?_; rintro e w3 ⟨g', rfl, sm', dg', hR', ho'⟩; have SM : Hid (g'.core = gc) := sm'; have D3 : Hid (DG (w1.alloc (.cells #[.slice ba zs.length bc, .int .i64 0, .int .i64 0, .int .i64 0] 153)).heap.size w3 g') := dg'; have R3 : Hid (C.QInv w3 w1.heap.size ba bc zs P E) := hR'; have O3 : Hid (C.ROnly (w1.alloc (.cells #[.slice ba zs.length bc, .int .i64 0, .int .i64 0, .int .i64 0] 153)) w3 w1.heap.size) := ho'; clear sm' dg' hR' ho')
  | (go_at_call 86; refine (C.qend (R3.out.later (below_alloc w3 _)) 0 ea HEND.out).mono ?_; rintro e w4 ⟨rfl, n4, hw4⟩; have X4 : Hid (w4.heap[w3.heap.size]? = some (gBox g')) := (by rw [hw4]; exact heap_alloc_new w3 (gBox g')); have B4 : Hid (Below w3.heap.size w3 w4) := (by rw [hw4]; exact below_drewN (below_alloc w3 _) n4); have E4 : Hid (w4.heap[w.heap.size]? = some (.cells #[.slice none 0 0, .slice none 0 0, .int .i64 0, .slice none 0 0, .slice none 0 0] 26)) := KEEP.out w1 w3 w4 ba bc E1.out B1.out O3.out B4.out; obtain ⟨c0, c1, c2, c3, c4, -, -⟩ := box_cells X4.out; clear hw4)
  | (go_at_call 27; refine (refmay_G g' w4 ((HAT.out _ _ _ SM.out D3.out).1.later B4.out)).mono ?_; rw [(same_check (same_coreV SM.out)).trans HCK.out]; rintro e w5 ⟨rfl, hb5'⟩; have B5 : Hid (Below w4.heap.size w4 w5) := hb5'; have X5 : Hid (w5.heap[w3.heap.size]? = some (gBox g')) := (hb5'.block _ (lt_of_block X4.out)).trans X4.out; have E5 : Hid (w5.heap[w.heap.size]? = some (.cells #[.slice none 0 0, .slice none 0 0, .int .i64 0, .slice none 0 0, .slice none 0 0] 26)) := (hb5'.block _ (lt_of_block E4.out)).trans E4.out; clear c0 c1 c2 c3 c4; obtain ⟨c0, c1, c2, c3, c4, -, -⟩ := box_cells X5.out; obtain ⟨x0, x1, x2, x3, x4, -, -⟩ := box_cells E5.out; have y0 : w5.frozen? ⟨w.heap.size, 0, none⟩ = false := (by simp [World.frozen?, E5.out]); have y1 : w5.frozen? ⟨w.heap.size, 1, none⟩ = false := (by simp [World.frozen?, E5.out]); have y2 : w5.frozen? ⟨w.heap.size, 2, none⟩ = false := (by simp [World.frozen?, E5.out]); have y3 : w5.frozen? ⟨w.heap.size, 3, none⟩ = false := (by simp [World.frozen?, E5.out]); have y4 : w5.frozen? ⟨w.heap.size, 4, none⟩ = false := (by simp [World.frozen?, E5.out]); have hz5 : w.heap.size < w5.heap.size := lt_of_block E5.out; have hz6 : w3.heap.size < w5.heap.size := lt_of_block X5.out; clear hb5'))
 have s0 := (below_alloc w (.cells #[.slice none 0 0, .slice none 0 0, .int .i64 0, .slice none 0 0, .slice none 0 0] 26)).size
 have hs : w.heap.size < (w.alloc (.cells #[.slice none 0 0, .slice none 0 0, .int .i64 0, .slice none 0 0, .slice none 0 0] 26)).heap.size := lt_of_block (heap_alloc_new w _)
 have s1 := B1.out.size
 have s2 := (below_alloc w1 (.cells #[.slice ba zs.length bc, .int .i64 0, .int .i64 0, .int .i64 0] 153)).size
 have s3 := O3.out.size
 have s4 := B4.out.size
 have hb9 : Below w.heap.size w5 (((((w5.setCell ⟨w.heap.size, 0, none⟩ (.slice none 0 0)).setCell ⟨w.heap.size, 1, none⟩ (.slice none 0 0)).setCell ⟨w.heap.size, 2, none⟩ (.int .i64 0)).setCell ⟨w.heap.size, 3, none⟩ (.slice none 0 0)).setCell ⟨w.heap.size, 4, none⟩ (.slice none 0 0)) := ((((own_set _ _ _ (Nat.le_refl _)).trans (own_set _ _ _ (Nat.le_refl _))).trans (own_set _ _ _ (Nat.le_refl _))).trans (own_set _ _ _ (Nat.le_refl _))).trans (own_set _ _ _ (Nat.le_refl _))
 refine bodyPost_ret (v := .tuple #[.agg #[.slice none 0 0, .slice none 0 0, .int .i64 0, .slice none 0 0, .slice none 0 0], .int .i64 ck, .int .i64 ((N : Int) - 4 - (zs.length : Int))]) (by simp [results, Tryz.results23, go_sem, x0, x1, x2, x3, x4]) rfl ?_
 exact ⟨rfl, ((((((below_alloc w _).trans (B1.out.mono s0)).trans ((below_alloc w1 (.cells #[.slice ba zs.length bc, .int .i64 0, .int .i64 0, .int .i64 0] 153)).mono (Nat.le_trans s0 s1))).trans (O3.out.below (by omega) (by omega))).trans (B4.out.mono (by omega))).trans (B5.out.mono (by omega))).trans hb9⟩
theorem qdec_fin (w : World) (ao : Option Addr) (N cap : Nat) (xs : List Int) (hN : N = xs.length) (hl : xs.length <= 140737488355328) (hcap : xs.length <= cap) (hr : C.RowAt w ao xs) (hna : ao = none -> cap = 0) (zs : List Int) (oa : Int) (hF : C.openS 1 xs = (zs, 0, oa)) (gc : GC) (P : Nat) (E : Int) (hG : grQ zs 0 0 = (gc, P, E)) (hBd : BdC zs.length gc) (ea : Int) (hEnd : C.endS zs P E = (0, ea)) (at_ : Int) (hC : checkG (coreV gc) (checkF (coreV gc).ts (coreV gc).ns) = (0, at_)) :
  Calls Tryz.prog 23 #[.slice ao N cap] w fun e w' => ∃ g', e = .returned (.tuple #[g'.val, .int .i64 0, .int .i64 0]) /\ g'.core = gc /\ DG w.heap.size w' g' /\ Below w.heap.size w w' := by
 have HOP : Hid (∀ w0 : World, Below w.heap.size w w0 -> Calls Tryz.prog 84 #[.int .u8 1, .slice ao N cap] w0 fun e w' => ∃ a c, e = .returned (.tuple #[.slice a zs.length c, .int .i64 0, .int .i64 oa]) /\ C.RowAt w' a zs /\ zs.length <= c /\ Below w0.heap.size w0 w') := fun w0 hb => qopen ao N cap xs w0 hN hl hcap (C.RowAt.later hr hb) hna zs 0 oa hF
 have hNl : N <= 140737488355328 := by omega
 have hzl : zs.length <= 16777216 := (C.frame_open 1 xs hr.1 zs oa hF).2.1
 have HZL : Hid (zs.length <= 16777216) := hzl
 have HGR : Hid (grQ zs 0 0 = (gc, P, E)) := hG
 have HEND : Hid (C.endS zs P E = (0, ea)) := hEnd
 have hbz : C.isBytes zs := (C.frame_open 1 xs hr.1 zs oa hF).2.2.1
 have HAT : Hid (∀ (B : Nat) (w : World) (g : GV), g.core = gc -> DG B w g -> GAt 140737488355328 w g /\ g.ps.length <= g.pc) := fun B w g e d => d.at2 (n := zs.length) (by rw [e]; exact hBd) (by omega)
 have HCK : Hid (checkG (coreV gc) (checkF (coreV gc).ts (coreV gc).ns) = (0, at_)) := hC
 have KEEP : Hid (∀ (w1 w3 w4 : World) (ba : Option Addr) (bc : Nat), w1.heap[w.heap.size]? = some (.cells #[.slice none 0 0, .slice none 0 0, .int .i64 0, .slice none 0 0, .slice none 0 0] 26) -> Below (w.alloc (.cells #[.slice none 0 0, .slice none 0 0, .int .i64 0, .slice none 0 0, .slice none 0 0] 26)).heap.size (w.alloc (.cells #[.slice none 0 0, .slice none 0 0, .int .i64 0, .slice none 0 0, .slice none 0 0] 26)) w1 -> C.ROnly (w1.alloc (.cells #[.slice ba zs.length bc, .int .i64 0, .int .i64 0, .int .i64 0] 153)) w3 w1.heap.size -> Below w3.heap.size w3 w4 -> w4.heap[w.heap.size]? = some (.cells #[.slice none 0 0, .slice none 0 0, .int .i64 0, .slice none 0 0, .slice none 0 0] 26)) := fun w1 w3 w4 ba bc e1 b1 o3 b4 => by
  have h1 := lt_of_block e1
  have s1 := (below_alloc w1 (.cells #[.slice ba zs.length bc, .int .i64 0, .int .i64 0, .int .i64 0] 153)).size
  have s3 := o3.size
  rw [b4.block _ (by omega), o3.block _ (by omega) (by omega), (below_alloc w1 (.cells #[.slice ba zs.length bc, .int .i64 0, .int .i64 0, .int .i64 0] 153)).block _ h1]
  exact e1
 clear hN hl hcap hr hna hF hG hEnd hC hbz hBd
 go_enter Tryz.func23, Tryz.ntmps23
 go_wp2_with (first
  | (go_at_call 84; refine (HOP.out _ (by first | exact below_alloc _ _ | exact (two_alloc _ _ _).1 | exact Below.refl _ _)).mono ?_; rintro e w1 ⟨ba, bc, rfl, hr1', hc1', hb1'⟩; have R1 : Hid (C.RowAt w1 ba zs) := hr1'; have C1 : Hid (zs.length <= bc) := hc1'; have B1 : Hid (Below (w.alloc (.cells #[.slice none 0 0, .slice none 0 0, .int .i64 0, .slice none 0 0, .slice none 0 0] 26)).heap.size (w.alloc (.cells #[.slice none 0 0, .slice none 0 0, .int .i64 0, .slice none 0 0, .slice none 0 0] 26)) w1) := hb1'; have E1 : Hid (w1.heap[w.heap.size]? = some (.cells #[.slice none 0 0, .slice none 0 0, .int .i64 0, .slice none 0 0, .slice none 0 0] 26)) := (hb1'.block _ (lt_of_block (heap_alloc_new w _))).trans (heap_alloc_new w _); clear hr1' hc1' hb1')
  | (go_at_call 85; refine (qgram (qinv_newG w1 ba bc zs (Nat.le_trans HZL.out (by omega)) R1.out (row_ltG R1.out)) C1.out (fun b off eb hn => Nat.lt_of_lt_of_le (row_ltG R1.out b off eb hn) (below_alloc _ _).size) HZL.out gc P E HGR.out).mono ?_; rintro e w3 ⟨g', rfl, sm', dg', hR', ho'⟩; have SM : Hid (g'.core = gc) := sm'; have D3 : Hid (DG (w1.alloc (.cells #[.slice ba zs.length bc, .int .i64 0, .int .i64 0, .int .i64 0] 153)).heap.size w3 g') := dg'; have R3 : Hid (C.QInv w3 w1.heap.size ba bc zs P E) := hR'; have O3 : Hid (C.ROnly (w1.alloc (.cells #[.slice ba zs.length bc, .int .i64 0, .int .i64 0, .int .i64 0] 153)) w3 w1.heap.size) := ho'; clear sm' dg' hR' ho')
  | (go_at_call 86; refine (C.qend (R3.out.later (below_alloc w3 _)) 0 ea HEND.out).mono ?_; rintro e w4 ⟨rfl, n4, hw4⟩; have X4 : Hid (w4.heap[w3.heap.size]? = some (gBox g')) := (by rw [hw4]; exact heap_alloc_new w3 (gBox g')); have B4 : Hid (Below w3.heap.size w3 w4) := (by rw [hw4]; exact below_drewN (below_alloc w3 _) n4); have E4 : Hid (w4.heap[w.heap.size]? = some (.cells #[.slice none 0 0, .slice none 0 0, .int .i64 0, .slice none 0 0, .slice none 0 0] 26)) := KEEP.out w1 w3 w4 ba bc E1.out B1.out O3.out B4.out; obtain ⟨c0, c1, c2, c3, c4, -, -⟩ := box_cells X4.out; clear hw4)
  | (go_at_call 27; refine (refmay_G g' w4 ((HAT.out _ _ _ SM.out D3.out).1.later B4.out)).mono ?_; rw [(same_check (same_coreV SM.out)).trans HCK.out]; rintro e w5 ⟨rfl, hb5'⟩; have B5 : Hid (Below w4.heap.size w4 w5) := hb5'; have X5 : Hid (w5.heap[w3.heap.size]? = some (gBox g')) := (hb5'.block _ (lt_of_block X4.out)).trans X4.out; have E5 : Hid (w5.heap[w.heap.size]? = some (.cells #[.slice none 0 0, .slice none 0 0, .int .i64 0, .slice none 0 0, .slice none 0 0] 26)) := (hb5'.block _ (lt_of_block E4.out)).trans E4.out; clear c0 c1 c2 c3 c4; obtain ⟨c0, c1, c2, c3, c4, -, -⟩ := box_cells X5.out; obtain ⟨x0, x1, x2, x3, x4, -, -⟩ := box_cells E5.out; have y0 : w5.frozen? ⟨w.heap.size, 0, none⟩ = false := (by simp [World.frozen?, E5.out]); have y1 : w5.frozen? ⟨w.heap.size, 1, none⟩ = false := (by simp [World.frozen?, E5.out]); have y2 : w5.frozen? ⟨w.heap.size, 2, none⟩ = false := (by simp [World.frozen?, E5.out]); have y3 : w5.frozen? ⟨w.heap.size, 3, none⟩ = false := (by simp [World.frozen?, E5.out]); have y4 : w5.frozen? ⟨w.heap.size, 4, none⟩ = false := (by simp [World.frozen?, E5.out]); have hz5 : w.heap.size < w5.heap.size := lt_of_block E5.out; have hz6 : w3.heap.size < w5.heap.size := lt_of_block X5.out; clear hb5'))
 have s0 := (below_alloc w (.cells #[.slice none 0 0, .slice none 0 0, .int .i64 0, .slice none 0 0, .slice none 0 0] 26)).size
 have hs : w.heap.size < (w.alloc (.cells #[.slice none 0 0, .slice none 0 0, .int .i64 0, .slice none 0 0, .slice none 0 0] 26)).heap.size := lt_of_block (heap_alloc_new w _)
 have s1 := B1.out.size
 have s2 := (below_alloc w1 (.cells #[.slice ba zs.length bc, .int .i64 0, .int .i64 0, .int .i64 0] 153)).size
 have s3 := O3.out.size
 have s4 := B4.out.size
 have hb9 : Below w.heap.size w5 (((((w5.setCell ⟨w.heap.size, 0, none⟩ (.slice g'.ta g'.ts.length g'.tc)).setCell ⟨w.heap.size, 1, none⟩ (.slice g'.na g'.ns.length g'.nc)).setCell ⟨w.heap.size, 2, none⟩ (.int .i64 g'.start)).setCell ⟨w.heap.size, 3, none⟩ (.slice g'.pa g'.ps.length g'.pc)).setCell ⟨w.heap.size, 4, none⟩ (.slice g'.la g'.ls.length g'.lc)) := ((((own_set _ _ _ (Nat.le_refl _)).trans (own_set _ _ _ (Nat.le_refl _))).trans (own_set _ _ _ (Nat.le_refl _))).trans (own_set _ _ _ (Nat.le_refl _))).trans (own_set _ _ _ (Nat.le_refl _))
 refine bodyPost_ret (v := .tuple #[g'.val, .int .i64 0, .int .i64 (0)]) (by simp [results, Tryz.results23, go_sem, x0, x1, x2, x3, x4]) rfl ?_
 refine ⟨g', rfl, SM.out, (D3.out.kept fun k hk hks => ?_).mono (by omega), ((((((below_alloc w _).trans (B1.out.mono s0)).trans ((below_alloc w1 (.cells #[.slice ba zs.length bc, .int .i64 0, .int .i64 0, .int .i64 0] 153)).mono (Nat.le_trans s0 s1))).trans (O3.out.below (by omega) (by omega))).trans (B4.out.mono (by omega))).trans (B5.out.mono (by omega))).trans hb9⟩
 have hne : k ≠ w.heap.size := by omega
 rw [Below.heap_setCell _ _ _ _ hne, Below.heap_setCell _ _ _ _ hne, Below.heap_setCell _ _ _ _ hne, Below.heap_setCell _ _ _ _ hne, Below.heap_setCell _ _ _ _ hne]
 exact (B5.out.block k (by omega)).trans (B4.out.block k hks)
theorem qdec_any (w : World) (ao : Option Addr) (N cap : Nat) (xs : List Int) (hN : N = xs.length) (hl : xs.length <= 140737488355328) (hcap : xs.length <= cap) (hr : C.RowAt w ao xs) (hna : ao = none -> cap = 0) :
  Calls Tryz.prog 23 #[.slice ao N cap] w fun e w' => ∃ y : GV, e = .returned (.tuple #[y.val, .int .i64 (decE xs).1, .int .i64 (decE xs).2]) /\ Below w.heap.size w w' /\ ((decE xs).1 ≠ 0 -> y = gVoid) /\ ((decE xs).1 = 0 -> y.core = (decG xs).1 /\ DG w.heap.size w' y) := by
 obtain ⟨zs, oe, oa, hF⟩ : ∃ zs oe oa, C.openS 1 xs = (zs, oe, oa) := ⟨_, _, _, rfl⟩
 by_cases h0 : oe = 0
 ·subst h0
  obtain ⟨_, hzl, hbz, _⟩ := C.frame_open 1 xs hr.1 zs oa hF
  obtain ⟨gc, P, E, hG⟩ : ∃ gc P E, grS zs 0 0 = (gc, P, E) := ⟨_, _, _, rfl⟩
  obtain ⟨gq, P', E', hQ⟩ : ∃ gq P' E', grQ zs 0 0 = (gq, P', E') := ⟨_, _, _, rfl⟩
  have hs := (rq_gr hbz).snd 0 0 (Nat.zero_le _)
  rw [hG, hQ] at hs
  simp only [Prod.mk.injEq] at hs
  obtain ⟨rfl, rfl⟩ := hs
  obtain ⟨ee, ea, hEn⟩ : ∃ ee ea, C.endS zs P' E' = (ee, ea) := ⟨_, _, rfl⟩
  have hP : P' <= zs.length := by have := ((rd_gr hbz).mono 0 0 (Nat.zero_le _)).2; rw [hG] at this; exact this
  obtain ⟨b1, b2, b3⟩ := endS_bd hP hEn
  have dG : decG xs = (gc, P', E') := by rw [decG, hF]; exact hG
  have dN : decN xs = (ee, ea) := by rw [decN, hF, dG]; exact hEn
  have dB : decB xs = (N : Int) - 4 - (zs.length : Int) := by rw [decB, hF, hN]
  by_cases h1 : ee = 0
  ·subst h1
   obtain ⟨rfl, _, _⟩ := b3 rfl
   have hf := (rq_gr hbz).fst 0 0 (Nat.zero_le _) (by rw [hG])
   rw [hG, hQ] at hf
   simp only at hf
   subst hf
   have hBd : BdC zs.length gq := by have := bdC_gr hbz 0 0 (Nat.zero_le _); rw [hG] at this; exact this
   obtain ⟨ck, at_, hC⟩ : ∃ ck at_, checkG (coreV gq) (checkF (coreV gq).ts (coreV gq).ns) = (ck, at_) := ⟨_, _, rfl⟩
   have dC : ckC gq = ck := by rw [ckC, hC]
   by_cases h2 : ck = 0
   ·subst h2
    have dE : decE xs = (0, 0) := by rw [decE, hF, dN, dG, dC]; simp
    rw [dE, dG]
    refine (qdec_fin w ao N cap xs hN hl hcap hr hna zs oa hF gq P' 0 hQ hBd ea hEn at_ hC).mono ?_
    rintro e w' ⟨y, rfl, hc, hd, hb⟩
    exact ⟨y, rfl, hb, fun h => absurd rfl h, fun _ => ⟨hc, hd⟩⟩
   ·have dE : decE xs = (ck, (N : Int) - 4 - (zs.length : Int)) := by rw [decE, hF, dN, dG, dC, dB]; simp [h2]
    rw [dE]
    refine (qdec_chk w ao N cap xs hN hl hcap hr hna zs oa hF gq P' 0 hQ hBd ea hEn ck at_ hC h2).mono ?_
    rintro e w' ⟨rfl, hb⟩
    exact ⟨gVoid, rfl, hb, fun _ => rfl, fun h => absurd h h2⟩
  ·have dE : decE xs = (ee, (N : Int) - 4 - (zs.length : Int) + ea) := by rw [decE, hF, dN, dB]; simp [h1]
   rw [dE]
   refine (qdec_end w ao N cap xs hN hl hcap hr hna zs oa hF gq P' E' hQ ee ea hEn h1 ⟨b1, by omega⟩).mono ?_
   rintro e w' ⟨rfl, hb⟩
   exact ⟨gVoid, rfl, hb, fun _ => rfl, fun h => absurd h h1⟩
 ·have dE : decE xs = (oe, oa) := by rw [decE, hF]; simp [h0]
  rw [dE]
  refine (qdec_open w ao N cap xs hN hl hcap hr hna zs oe oa hF h0).mono ?_
  rintro e w' ⟨rfl, hb⟩
  exact ⟨gVoid, rfl, hb, fun _ => rfl, fun h => absurd h h0⟩
end Go.Proofs.YtmkakdfdfdcncaaGreatDoor
