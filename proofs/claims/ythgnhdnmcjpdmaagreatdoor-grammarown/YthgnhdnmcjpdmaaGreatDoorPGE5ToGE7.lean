import Derived.Test.YthgnhdnmcjpdmaaGreatDoorPGE2ToGE4
import Derived.Test.YthgnhdnmcjpdmaaGreatDoorPGDec5ToGDec8
import Derived.Test.YthgnhdnmcjpdmaaGreatDoorPGDec9ToGDec11
namespace Go.Proofs.YthgnhdnmcjpdmaaGreatDoor
set_option linter.unusedVariables false
set_option maxRecDepth 100000
set_option maxHeartbeats 16000000
open Go.RowKit
theorem xlev {wr : World} {r : Nat} {ao : Option Addr} {N cap : Nat} {zs : List Int} {pos : Nat} {err : Int} (h : C.RInv wr r ao N cap zs pos err) (hg : ∀ g, ao = some ⟨g, 0, none⟩ -> g < wr.heap.size) (hz : zs.length <= 16777216) (a : Int) (l : List Int) (P : Nat) (E : Int) (hL : lvS zs pos err = ((a, l), P, E)) :
  Calls Tryz.prog 102 #[.pointer (some ⟨r, 0, none⟩)] wr fun e w' => ∃ ta tc, e = .returned (.agg #[.int .i64 a, .slice ta l.length tc]) /\ IL w' (.slice ta l.length tc) l /\ (∀ k, (Value.slice ta l.length tc).ownBlock = some k -> wr.heap.size <= k) /\ C.RInv w' r ao N cap zs P E /\ C.ROnly wr w' r := by
 obtain ⟨a', p1, i1, h1a⟩ : ∃ a' p1 i1, itS zs pos err = (a', p1, i1) := ⟨_, _, _, rfl⟩
 obtain ⟨l', p2, i2, h1b⟩ : ∃ l' p2 i2, liS zs (itS zs) p1 i1 = (l', p2, i2) := ⟨_, _, _, rfl⟩
 rw [lvS, bdS, h1a] at hL
 simp only [h1b, Prod.mk.injEq] at hL
 obtain ⟨⟨rfl, rfl⟩, rfl, rfl⟩ := hL
 have HA : Hid (itS zs pos err = (a', p1, i1)) := h1a
 have HB : Hid (liS zs (itS zs) p1 i1 = (l', p2, i2)) := h1b
 have HZZ : Hid (zs.length <= 16777216) := hz
 obtain ⟨hb0, hx0, hx1⟩ := two_alloc wr (.cells #[.int .i64 0, .slice none 0 0] 92) (.cells #[.int .i64 0, .slice none 0 0] 92)
 have hlt := h.lt
 have HO : Hid (C.ROnly wr ((wr.alloc (.cells #[.int .i64 0, .slice none 0 0] 92)).alloc (.cells #[.int .i64 0, .slice none 0 0] 92)) r) := C.ROnly.ofBelow hb0
 have HC : Hid (C.RInv ((wr.alloc (.cells #[.int .i64 0, .slice none 0 0] 92)).alloc (.cells #[.int .i64 0, .slice none 0 0] 92)) r ao N cap zs pos err) := h.later hb0
 have HH : Hid (C.RInv wr r ao N cap zs pos err) := h
 have HG : Hid (∀ g, ao = some ⟨g, 0, none⟩ -> g < wr.heap.size) := hg
 have AX : Hid (∀ w1 : World, C.ROnly ((wr.alloc (.cells #[.int .i64 0, .slice none 0 0] 92)).alloc (.cells #[.int .i64 0, .slice none 0 0] 92)) w1 r -> w1.heap[wr.heap.size]? = some (.cells #[.int .i64 0, .slice none 0 0] 92 (0, 0)) /\ w1.heap[wr.heap.size + 1]? = some (.cells #[.int .i64 0, .slice none 0 0] 92 (0, 0))) := fun w1 ho => ⟨(ho.block _ (lt_of_block hx0) (by omega)).trans hx0, (ho.block _ (lt_of_block hx1) (by omega)).trans hx1⟩
 have AY : Hid (∀ w1 w2 : World, (w1.heap[wr.heap.size]? = some (.cells #[.int .i64 0, .slice none 0 0] 92 (0, 0)) /\ w1.heap[wr.heap.size + 1]? = some (.cells #[.int .i64 0, .slice none 0 0] 92 (0, 0))) -> C.ROnly (w1.setCell ⟨wr.heap.size + 1, 0, none⟩ (.int .i64 a')) w2 r -> w2.heap[wr.heap.size]? = some (.cells #[.int .i64 0, .slice none 0 0] 92 (0, 0)) /\ w2.heap[wr.heap.size + 1]? = some (.cells #[.int .i64 a', .slice none 0 0] 92 (0, 0))) := fun w1 w2 e1 ho =>
  have ek : (w1.setCell ⟨wr.heap.size + 1, 0, none⟩ (.int .i64 a')).heap[wr.heap.size]? = some (.cells #[.int .i64 0, .slice none 0 0] 92 (0, 0)) := (Below.heap_setCell _ _ _ _ (show wr.heap.size ≠ wr.heap.size + 1 by omega)).trans e1.1
  ⟨(ho.block _ (lt_of_block ek) (by omega)).trans ek, (ho.block _ (lt_of_block (heap_set e1.2 _ _)) (by omega)).trans (heap_set e1.2 0 (.int .i64 a'))⟩
 clear h hg hz hb0 hx0 hx1 h1a h1b
 go_enter Tryz.func102, Tryz.ntmps102
 go_wp2_with (first
  | (go_at_call 98; refine (xint HC.out a' p1 i1 HA.out).mono ?_; rintro e w1 ⟨rfl, h1', o1'⟩; have e1 := AX.out w1 o1'; have z0 : w1.cell? ⟨wr.heap.size + 1, 0, none⟩ = some (.int .i64 0) := (by rw [cellq_any e1.2]; rfl); have y0 : w1.frozen? ⟨wr.heap.size + 1, 0, none⟩ = false := (by simp [World.frozen?, e1.2]); have h1 : Hid (C.RInv (w1.setCell ⟨wr.heap.size + 1, 0, none⟩ (.int .i64 a')) r ao N cap zs p1 i1) := HH.out.patched h1' (own_set _ _ _ (by omega)); have o1 : Hid (C.ROnly wr (w1.setCell ⟨wr.heap.size + 1, 0, none⟩ (.int .i64 a')) r) := (HO.out.trans o1').patched (own_set _ _ _ (by omega)); have hz1 : wr.heap.size + 1 < w1.heap.size := lt_of_block e1.2; have E1 : Hid _ := e1; clear h1' o1' e1)
  | (go_at_call 136; refine (xl_int h1.out (fun g eg => Nat.lt_of_lt_of_le (HG.out g eg) o1.out.size) HZZ.out l' p2 i2 HB.out).mono ?_; rintro e w2 ⟨ta, tc, rfl, s2', v2', h2', o2'⟩; have e2 := AY.out w1 w2 E1.out o2'; clear z0 y0; have z0 : w2.cell? ⟨wr.heap.size + 1, 0, none⟩ = some (.int .i64 a') := (by rw [cellq_any e2.2]; rfl); have z1 : w2.cell? ⟨wr.heap.size + 1, 1, none⟩ = some (.slice none 0 0) := (by rw [cellq_any e2.2]; rfl); have y1 : w2.frozen? ⟨wr.heap.size + 1, 1, none⟩ = false := (by simp [World.frozen?, e2.2]); have x0 : w2.cell? ⟨wr.heap.size, 0, none⟩ = some (.int .i64 0) := (by rw [cellq_any e2.1]; rfl); have x1 : w2.cell? ⟨wr.heap.size, 1, none⟩ = some (.slice none 0 0) := (by rw [cellq_any e2.1]; rfl); have y2 : w2.frozen? ⟨wr.heap.size, 0, none⟩ = false := (by simp [World.frozen?, e2.1]); have y3 : w2.frozen? ⟨wr.heap.size, 1, none⟩ = false := (by simp [World.frozen?, e2.1]); have H2 : Hid _ := h2'; have O2 : Hid _ := o1.out.trans o2'; have S2 : Hid _ := s2'; have V2 : Hid _ := v2'; have SZ : Hid (wr.heap.size + 1 < (w1.setCell ⟨wr.heap.size + 1, 0, none⟩ (.int .i64 a')).heap.size) := lt_of_block (heap_set E1.out.2 _ _); clear hz1; have hz1 : wr.heap.size + 1 < w2.heap.size := lt_of_block e2.2; have hz2 : wr.heap.size < w2.heap.size := lt_of_block e2.1; clear h2' o2' s2' v2'))
 have hb9 : Below wr.heap.size w2 (((w2.setCell ⟨wr.heap.size + 1, 1, none⟩ (.slice ta l'.length tc)).setCell ⟨wr.heap.size, 0, none⟩ (.int .i64 a')).setCell ⟨wr.heap.size, 1, none⟩ (.slice ta l'.length tc)) :=
  ((own_set _ _ _ (by omega)).trans (own_set _ _ _ (by omega))).trans (own_set _ _ _ (by omega))
 refine bodyPost_ret (v := .agg #[.int .i64 a', .slice ta l'.length tc]) (by simp [results, Tryz.results102, go_sem, x0, x1]) rfl ?_
 have hk : ∀ k, (Value.slice ta l'.length tc).ownBlock = some k -> wr.heap.size + 1 < k := fun k hk => Nat.lt_of_lt_of_le SZ.out (V2.out k hk)
 refine ⟨ta, tc, rfl, ?_, fun k hk' => (by have := hk k hk'; omega), HH.out.patched H2.out hb9, O2.out.patched hb9⟩
 exact IL.kept S2.out fun k hk' => by
  have := hk k hk'
  rw [Below.heap_setCell _ _ _ _ (show k ≠ wr.heap.size by omega), Below.heap_setCell _ _ _ _ (show k ≠ wr.heap.size by omega), Below.heap_setCell _ _ _ _ (show k ≠ wr.heap.size + 1 by omega)]
theorem xprod {wr : World} {r : Nat} {ao : Option Addr} {N cap : Nat} {zs : List Int} {pos : Nat} {err : Int} (h : C.RInv wr r ao N cap zs pos err) (hg : ∀ g, ao = some ⟨g, 0, none⟩ -> g < wr.heap.size) (hz : zs.length <= 16777216) (a : Int) (l : List (Int × Int)) (c : Int) (P : Nat) (E : Int) (hL : prS zs pos err = ((a, l, c), P, E)) :
  Calls Tryz.prog 100 #[.pointer (some ⟨r, 0, none⟩)] wr fun e w' => ∃ ra rc, e = .returned (.agg #[.int .i64 a, .slice ra l.length rc, .int .i64 c]) /\ SY w' (.slice ra l.length rc) l /\ (∀ k, (Value.slice ra l.length rc).ownBlock = some k -> wr.heap.size <= k) /\ C.RInv w' r ao N cap zs P E /\ C.ROnly wr w' r := by
 obtain ⟨a', p1, i1, h1a⟩ : ∃ a' p1 i1, itS zs pos err = (a', p1, i1) := ⟨_, _, _, rfl⟩
 obtain ⟨l', p2, i2, h1b⟩ : ∃ l' p2 i2, liS zs (syS zs) p1 i1 = (l', p2, i2) := ⟨_, _, _, rfl⟩
 obtain ⟨c', p3, i3, h1c⟩ : ∃ c' p3 i3, sgS zs p2 i2 = (c', p3, i3) := ⟨_, _, _, rfl⟩
 rw [prS, bdS, h1a] at hL
 simp only [bdS, h1b, h1c, Prod.mk.injEq] at hL
 obtain ⟨⟨rfl, rfl, rfl⟩, rfl, rfl⟩ := hL
 have HA : Hid (itS zs pos err = (a', p1, i1)) := h1a
 have HB : Hid (liS zs (syS zs) p1 i1 = (l', p2, i2)) := h1b
 have HCC : Hid (sgS zs p2 i2 = (c', p3, i3)) := h1c
 have HZZ : Hid (zs.length <= 16777216) := hz
 obtain ⟨hb0, hx0, hx1⟩ := two_alloc wr (.cells #[.int .i64 0, .slice none 0 0, .int .i64 0] 75) (.cells #[.int .i64 0, .slice none 0 0, .int .i64 0] 75)
 have hlt := h.lt
 have HO : Hid (C.ROnly wr ((wr.alloc (.cells #[.int .i64 0, .slice none 0 0, .int .i64 0] 75)).alloc (.cells #[.int .i64 0, .slice none 0 0, .int .i64 0] 75)) r) := C.ROnly.ofBelow hb0
 have HC : Hid (C.RInv ((wr.alloc (.cells #[.int .i64 0, .slice none 0 0, .int .i64 0] 75)).alloc (.cells #[.int .i64 0, .slice none 0 0, .int .i64 0] 75)) r ao N cap zs pos err) := h.later hb0
 have HH : Hid (C.RInv wr r ao N cap zs pos err) := h
 have HG : Hid (∀ g, ao = some ⟨g, 0, none⟩ -> g < wr.heap.size) := hg
 have AX : Hid (∀ w1 : World, C.ROnly ((wr.alloc (.cells #[.int .i64 0, .slice none 0 0, .int .i64 0] 75)).alloc (.cells #[.int .i64 0, .slice none 0 0, .int .i64 0] 75)) w1 r -> w1.heap[wr.heap.size]? = some (.cells #[.int .i64 0, .slice none 0 0, .int .i64 0] 75 (0, 0)) /\ w1.heap[wr.heap.size + 1]? = some (.cells #[.int .i64 0, .slice none 0 0, .int .i64 0] 75 (0, 0))) := fun w1 ho => ⟨(ho.block _ (lt_of_block hx0) (by omega)).trans hx0, (ho.block _ (lt_of_block hx1) (by omega)).trans hx1⟩
 clear h hg hz hb0 hx0 hx1 h1a h1b h1c
 go_enter Tryz.func100, Tryz.ntmps100
 go_wp2_with (first
  | (go_at_call 98; refine (xint HC.out a' p1 i1 HA.out).mono ?_; rintro e w1 ⟨rfl, h1', o1'⟩; have e1 := AX.out w1 o1'; have z0 : w1.cell? ⟨wr.heap.size + 1, 0, none⟩ = some (.int .i64 0) := (by rw [cellq_any e1.2]; rfl); have y0 : w1.frozen? ⟨wr.heap.size + 1, 0, none⟩ = false := (by simp [World.frozen?, e1.2]); have h1 : Hid (C.RInv (w1.setCell ⟨wr.heap.size + 1, 0, none⟩ (.int .i64 a')) r ao N cap zs p1 i1) := HH.out.patched h1' (own_set _ _ _ (by omega)); have o1 : Hid (C.ROnly wr (w1.setCell ⟨wr.heap.size + 1, 0, none⟩ (.int .i64 a')) r) := (HO.out.trans o1').patched (own_set _ _ _ (by omega)); have hz1 : wr.heap.size + 1 < w1.heap.size := lt_of_block e1.2; have E1 : Hid _ := e1; clear h1' o1' e1)
  | (go_at_call 133; refine (xl_sym h1.out (fun g eg => Nat.lt_of_lt_of_le (HG.out g eg) o1.out.size) HZZ.out l' p2 i2 HB.out).mono ?_; rintro e w2 ⟨ra, rc, rfl, s2', v2', h2', o2'⟩; have e2 := two_keep hlt 0 (.int .i64 a') E1.out o2'; clear z0 y0; have z1 : w2.cell? ⟨wr.heap.size + 1, 1, none⟩ = some (.slice none 0 0) := (by rw [cellq_any e2.2]; rfl); have y1 : w2.frozen? ⟨wr.heap.size + 1, 1, none⟩ = false := (by simp [World.frozen?, e2.2]); have SZ : Hid (wr.heap.size + 1 < (w1.setCell ⟨wr.heap.size + 1, 0, none⟩ (.int .i64 a')).heap.size) := lt_of_block (heap_set E1.out.2 _ _); have V2 : Hid (∀ k, (Value.slice ra l'.length rc).ownBlock = some k -> wr.heap.size + 1 < k) := (fun k hk => Nat.lt_of_lt_of_le SZ.out (v2' k hk)); have h2 : Hid (C.RInv (w2.setCell ⟨wr.heap.size + 1, 1, none⟩ (.slice ra l'.length rc)) r ao N cap zs p2 i2) := HH.out.patched h2' (own_set _ _ _ (by omega)); have o2 : Hid (C.ROnly wr (w2.setCell ⟨wr.heap.size + 1, 1, none⟩ (.slice ra l'.length rc)) r) := (o1.out.trans o2').patched (own_set _ _ _ (by omega)); have s2 : Hid (SY (w2.setCell ⟨wr.heap.size + 1, 1, none⟩ (.slice ra l'.length rc)) (.slice ra l'.length rc) l') := (SY.kept s2' fun k hk => Below.heap_setCell _ _ _ _ (show k ≠ wr.heap.size + 1 by have := V2.out k hk; omega)); clear hz1; have hz1 : wr.heap.size + 1 < w2.heap.size := lt_of_block e2.2; have E2 : Hid _ := e2; clear h2' o2' s2' v2' e2)
  | (go_at_call 135; refine (xsg h2.out c' p3 i3 HCC.out).mono ?_; rintro e w3 ⟨rfl, h3', o3'⟩; have e3 := two_keep hlt 1 (.slice ra l'.length rc) E2.out o3'; clear z1 y1; have z0 : w3.cell? ⟨wr.heap.size + 1, 0, none⟩ = some (.int .i64 a') := (by rw [cellq_any e3.2]; rfl); have z1 : w3.cell? ⟨wr.heap.size + 1, 1, none⟩ = some (.slice ra l'.length rc) := (by rw [cellq_any e3.2]; rfl); have z2 : w3.cell? ⟨wr.heap.size + 1, 2, none⟩ = some (.int .i64 0) := (by rw [cellq_any e3.2]; rfl); have y2 : w3.frozen? ⟨wr.heap.size + 1, 2, none⟩ = false := (by simp [World.frozen?, e3.2]); have x0 : w3.cell? ⟨wr.heap.size, 0, none⟩ = some (.int .i64 0) := (by rw [cellq_any e3.1]; rfl); have x1 : w3.cell? ⟨wr.heap.size, 1, none⟩ = some (.slice none 0 0) := (by rw [cellq_any e3.1]; rfl); have x2 : w3.cell? ⟨wr.heap.size, 2, none⟩ = some (.int .i64 0) := (by rw [cellq_any e3.1]; rfl); have y3 : w3.frozen? ⟨wr.heap.size, 0, none⟩ = false := (by simp [World.frozen?, e3.1]); have y4 : w3.frozen? ⟨wr.heap.size, 1, none⟩ = false := (by simp [World.frozen?, e3.1]); have y5 : w3.frozen? ⟨wr.heap.size, 2, none⟩ = false := (by simp [World.frozen?, e3.1]); have h3 : Hid _ := h3'; have o3 : Hid (C.ROnly wr w3 r) := o2.out.trans o3'; have s3 : Hid (SY w3 (.slice ra l'.length rc) l') := (SY.kept s2.out fun k hk => o3'.block k (s2.out.lt k hk) (by have := V2.out k hk; omega)); clear hz1; have hz1 : wr.heap.size + 1 < w3.heap.size := lt_of_block e3.2; have hz2 : wr.heap.size < w3.heap.size := lt_of_block e3.1; clear h3' o3' e3))
 have hb9 : Below wr.heap.size w3 ((((w3.setCell ⟨wr.heap.size + 1, 2, none⟩ (.int .i64 c')).setCell ⟨wr.heap.size, 0, none⟩ (.int .i64 a')).setCell ⟨wr.heap.size, 1, none⟩ (.slice ra l'.length rc)).setCell ⟨wr.heap.size, 2, none⟩ (.int .i64 c')) :=
  (((own_set _ _ _ (by omega)).trans (own_set _ _ _ (by omega))).trans (own_set _ _ _ (by omega))).trans (own_set _ _ _ (by omega))
 refine bodyPost_ret (v := .agg #[.int .i64 a', .slice ra l'.length rc, .int .i64 c']) (by simp [results, Tryz.results100, go_sem, x0, x1, x2]) rfl ?_
 refine ⟨ra, rc, rfl, ?_, fun k hk' => (by have := V2.out k hk'; omega), HH.out.patched h3.out hb9, o3.out.patched hb9⟩
 exact SY.kept s3.out fun k hk' => by
  have := V2.out k hk'
  rw [Below.heap_setCell _ _ _ _ (show k ≠ wr.heap.size by omega), Below.heap_setCell _ _ _ _ (show k ≠ wr.heap.size by omega), Below.heap_setCell _ _ _ _ (show k ≠ wr.heap.size by omega), Below.heap_setCell _ _ _ _ (show k ≠ wr.heap.size + 1 by omega)]
theorem xl_lev {wr : World} {r : Nat} {ao : Option Addr} {N cap : Nat} {zs : List Int} {pos : Nat} {err : Int} (h : C.RInv wr r ao N cap zs pos err) (hg : ∀ g, ao = some ⟨g, 0, none⟩ -> g < wr.heap.size) (hz : zs.length <= 16777216) (M : List (Int × List Int)) (P : Nat) (E : Int) (hL : liS zs (lvS zs) pos err = (M, P, E)) :
  Calls Tryz.prog 101 #[.pointer (some ⟨r, 0, none⟩), .func (.func 102) #[] #[]] wr fun e w' => ∃ a c L, e = .returned (.slice a L.length c) /\ L.map LV.core = M /\ LO wr.heap.size w' (.slice a L.length c) L /\ C.RInv w' r ao N cap zs P E /\ C.ROnly wr w' r := by
 obtain ⟨n, p1, e1, hc⟩ : ∃ n p1 e1, ctS zs pos err = (n, p1, e1) := ⟨_, _, _, rfl⟩
 have HCT : Hid (ctS zs pos err = (n, p1, e1)) := hc
 have HLS : Hid (lsS (lvS zs) n p1 e1 = (M, P, E)) := by show _ = _; rw [liS, hc] at hL; exact hL
 have HZ : Hid (zs.length <= 16777216) := hz
 have HRD : Hid (Rd1 zs (lvS zs) encVc) := rd_lv h.row.1
 have HG : Hid (∀ g, ao = some ⟨g, 0, none⟩ -> g < wr.heap.size) := hg
 have HI : Hid (C.RInv wr r ao N cap zs pos err) := h
 have HLR : Hid (r < wr.heap.size) := h.lt
 obtain ⟨ws, HWS⟩ : ∃ ws : World, Hid (ws = wr) := ⟨_, rfl⟩
 clear h hg hL hc hz
 go_enter Tryz.func101, Tryz.ntmps101
 go_wp2_with (go_at_call 128; refine (xct HI.out n p1 e1 HCT.out).mono ?_; rintro e w1 ⟨rfl, h1', o1'⟩; have h1 : Hid (C.RInv w1 r ao N cap zs p1 e1) := h1'; have o1 : Hid (C.ROnly ws w1 r) := (by rw [HWS.out]; exact o1'); clear h1' o1')
 go_loopw [5, 10] (fun v z wr => ∃ (k : Nat) (K : List LV) (p : Nat) (e : Int), k <= n /\ z = .int .i64 k /\ K.length = k /\ k <= p /\ LO ws.heap.size wr v K /\ C.RInv wr r ao N cap zs p e /\ C.ROnly ws wr r /\ (K.map LV.core ++ (lsS (lvS zs) (n - k) p e).1, (lsS (lvS zs) (n - k) p e).2) = (M, P, E)) (fun _ z _ => n - (intOf z).toNat)
 case atStart => exact ⟨0, [], p1, e1, Nat.zero_le _, rfl, rfl, Nat.zero_le _, LO.nil _ _, h1.out, o1.out, HLS.out⟩
 case round =>
  clear h1 o1
  obtain ⟨k, K, p, e, hk, rfl, hKl, hkp, hS', hR', hO', hF'⟩ := hrel
  obtain ⟨va, vc, rfl⟩ := hS'.row.len
  rw [hKl] at hS'
  rw [hKl]
  have HKL : Hid (K.length = k /\ k <= p) := ⟨hKl, hkp⟩
  have HPZ : Hid (p <= zs.length) := hR'.pos
  have HS : Hid (LO ws.heap.size wr (.slice va k vc) K) := hS'
  have HR : Hid (C.RInv wr r ao N cap zs p e) := hR'
  have HO : Hid (C.ROnly ws wr r) := hO'
  have HF : Hid ((K.map LV.core ++ (lsS (lvS zs) (n - k) p e).1, (lsS (lvS zs) (n - k) p e).2) = (M, P, E)) := hF'
  have hkz : k <= 16777216 := by have := HZ.out; have := hR'.pos; omega
  have HTL : Hid (K.length <= 100000000) := by show _ <= _; omega
  clear hS' hR' hO' hF' hKl hkp
  by_cases hlt : k < n
  ·have klt : (k : Int) < (n : Int) := by omega
   obtain ⟨s, p', e', hR⟩ : ∃ s p' e', lvS zs p e = (s, p', e') := ⟨_, _, _, rfl⟩
   have HRR : Hid (lvS zs p e = (s, p', e')) := hR
   have HMO : Hid (p <= p' /\ p' <= zs.length) := by have := HRD.out.mono p e HPZ.out; rw [hR] at this; exact this
   have HGO : Hid ((p' = p -> K.map LV.core = M /\ p' = P /\ e' = E) /\ (p' ≠ p -> ((K.map LV.core ++ [s]) ++ (lsS (lvS zs) (n - (k + 1)) p' e').1, (lsS (lvS zs) (n - (k + 1)) p' e').2) = (M, P, E))) := ls_go HF.out hlt hR
   have ARd : Hid (∀ w', C.ROnly wr w' r -> LO ws.heap.size w' (.slice va k vc) K) := fun w' ho => HS.out.kept fun j hj hjs => ho.block j hjs (fun e => by have := HLR.out; have := HWS.out; subst this; omega)
   have HGG : Hid (∀ g, ao = some ⟨g, 0, none⟩ -> g < wr.heap.size) := fun g eg => Nat.lt_of_lt_of_le (by have := HG.out g eg; rw [HWS.out]; exact this) HO.out.size
   clear hR
   obtain ⟨sa, sl⟩ := s
   by_cases hpp : p' = p
   ·obtain ⟨eL, eP, eE⟩ := HGO.out.1 hpp
    subst hpp
    have HEQ : Hid (K.map LV.core = M /\ p' = P /\ e' = E) := ⟨eL, eP, eE⟩
    clear eL eP eE
    have t1 : (((p' : Nat) : Int) == (p' : Int)) = true := by simp
    go_wp2_with (first
     | (go_at_call 129; guard_hyp HR : Hid (C.RInv wr r ao N cap zs p' e); refine (C.rat_any HR.out).mono ?_; rintro e w' ⟨rfl, rfl⟩; have HR0 : Hid (C.RInv wr r ao N cap zs p' _) := HR; clear HR)
     | (go_at_call 102; refine (xlev HR0.out HGG.out HZ.out sa sl p' e' HRR.out).mono ?_; rintro e w2 ⟨ta, tc, rfl, s2', v2', h2', o2'⟩; have h2 : Hid (C.RInv w2 r ao N cap zs p' e') := h2'; have o2 : Hid (C.ROnly ws w2 r) := HO.out.trans o2'; have S2 : Hid (LO ws.heap.size w2 (.slice va k vc) K) := ARd.out w2 o2'; clear h2' o2' s2' v2')
     | (go_at_call 129; refine (C.rat_any (h2.out.later (below_alloc w2 _))).mono ?_; rintro e w' ⟨rfl, rfl⟩))
    go_ret
    have hws := HWS.out
    subst hws
    obtain ⟨rfl, rfl, rfl⟩ := HEQ.out
    have hkl := HKL.out.1
    subst hkl
    exact ⟨va, vc, K, rfl, rfl, S2.out.later (below_alloc _ _), h2.out.later (below_alloc _ _), ro_then o2.out ((below_alloc _ _).mono o2.out.size)⟩
   ·have t1 : (((p' : Nat) : Int) == (p : Int)) = false := by simp only [beq_eq_false_iff_ne, ne_eq]; omega
    go_wp2_with (first
     | (go_at_call 129; guard_hyp HR : Hid (C.RInv wr r ao N cap zs p e); refine (C.rat_any HR.out).mono ?_; rintro e w' ⟨rfl, rfl⟩; have HR0 : Hid (C.RInv wr r ao N cap zs p _) := HR; clear HR)
     | (go_at_call 102; refine (xlev HR0.out HGG.out HZ.out sa sl p' e' HRR.out).mono ?_; rintro e w2 ⟨ta, tc, rfl, s2', v2', h2', o2'⟩; have h2 : Hid (C.RInv w2 r ao N cap zs p' e') := h2'; have o2 : Hid (C.ROnly ws w2 r) := HO.out.trans o2'; have S2 : Hid (LO ws.heap.size w2 (.slice va k vc) K) := ARd.out w2 o2'; have I2 : Hid (IL w2 (.slice ta sl.length tc) sl) := s2'; have V2 : Hid (∀ j, (Value.slice ta sl.length tc).ownBlock = some j -> ws.heap.size <= j /\ (Value.slice va k vc).ownBlock ≠ some j /\ ∀ x ∈ K, (Value.slice x.ta x.terms.length x.tc).ownBlock ≠ some j) := (fun j hj => ⟨Nat.le_trans HO.out.size (v2' j hj), fun e => (by have := HS.out.row.lt j e; have := v2' j hj; omega), fun x hx e => (by have := (HS.out.each x hx).lt j e; have := v2' j hj; omega)⟩); clear h2' o2' s2' v2')
     | (go_at_call 129; refine (C.rat_any (h2.out.later (below_alloc w2 _))).mono ?_; rintro e w' ⟨rfl, rfl⟩)
     | (at_builtin; refine wpList_LY_append_w rfl _ _ rfl _ K rfl ((S2.out.later (below_alloc w2 _)).later (below_alloc _ _)).row _ 1 ⟨sa, ta, tc, sl⟩ rfl (new2 w2 _ _ _ _) HTL.out ?_; intro a4 n4 c4 w4 ho4 hg4))
    go_roundw
    case rel =>
     have hsz : ws.heap.size <= w2.heap.size := o2.out.size
     have hb1 : Below w2.heap.size w2 ((w2.alloc (.cells #[.int .i64 sa, .slice ta sl.length tc] 92)).alloc (.cells #[.int .i64 sa, .slice ta sl.length tc] 92)) := (below_alloc w2 _).trans ((below_alloc _ _).mono (below_alloc w2 _).size)
     have hb2 : Below ws.heap.size ((w2.alloc (.cells #[.int .i64 sa, .slice ta sl.length tc] 92)).alloc (.cells #[.int .i64 sa, .slice ta sl.length tc] 92)) w4 := (Below.refl _ _).grown hg4.grown (Nat.le_trans hsz hb1.size) S2.out.lo
     have hb3 : Below ws.heap.size w2 w4 := (hb1.mono hsz).trans hb2
     have hws := HWS.out
     have hmo := HMO.out
     have hkl := HKL.out
     refine ⟨k + 1, K ++ [⟨sa, ta, tc, sl⟩], p', e', by omega, by go_num, by simp [hkl.1], by omega, ?_, ?_, ro_then o2.out hb3, ?_⟩
     ·exact (S2.out.later hb1).append ho4 hg4 (Nat.le_trans hsz hb1.size) (I2.out.later hb1) V2.out
     ·exact rinv_kept2 h2.out (hb3.block r (by rw [hws]; exact HLR.out)) (fun g eg => hb3.block g (by rw [hws]; exact HG.out g eg))
     ·rw [List.map_append]; exact HGO.out.2 hpp
    case measure => simp [intOf]; omega
  ·obtain rfl : k = n := by omega
   obtain ⟨eL, eP, eE⟩ := ls_end HF.out
   have HEQ : Hid (K.map LV.core = M /\ p = P /\ e = E) := ⟨eL, eP, eE⟩
   clear eL eP eE
   go_wp2
   go_ret
   have hws := HWS.out
   subst hws
   obtain ⟨rfl, rfl, rfl⟩ := HEQ.out
   have hkl := HKL.out.1
   subst hkl
   exact ⟨va, vc, K, rfl, rfl, HS.out, HR.out, HO.out⟩
theorem xl_prod {wr : World} {r : Nat} {ao : Option Addr} {N cap : Nat} {zs : List Int} {pos : Nat} {err : Int} (h : C.RInv wr r ao N cap zs pos err) (hg : ∀ g, ao = some ⟨g, 0, none⟩ -> g < wr.heap.size) (hz : zs.length <= 16777216) (M : List (Int × List (Int × Int) × Int)) (P : Nat) (E : Int) (hL : liS zs (prS zs) pos err = (M, P, E)) :
  Calls Tryz.prog 99 #[.pointer (some ⟨r, 0, none⟩), .func (.func 100) #[] #[]] wr fun e w' => ∃ a c L, e = .returned (.slice a L.length c) /\ L.map PV.core = M /\ PO wr.heap.size w' (.slice a L.length c) L /\ C.RInv w' r ao N cap zs P E /\ C.ROnly wr w' r := by
 obtain ⟨n, p1, e1, hc⟩ : ∃ n p1 e1, ctS zs pos err = (n, p1, e1) := ⟨_, _, _, rfl⟩
 have HCT : Hid (ctS zs pos err = (n, p1, e1)) := hc
 have HLS : Hid (lsS (prS zs) n p1 e1 = (M, P, E)) := by show _ = _; rw [liS, hc] at hL; exact hL
 have HZ : Hid (zs.length <= 16777216) := hz
 have HRD : Hid (Rd1 zs (prS zs) encPc) := rd_pr h.row.1
 have HG : Hid (∀ g, ao = some ⟨g, 0, none⟩ -> g < wr.heap.size) := hg
 have HI : Hid (C.RInv wr r ao N cap zs pos err) := h
 have HLR : Hid (r < wr.heap.size) := h.lt
 obtain ⟨ws, HWS⟩ : ∃ ws : World, Hid (ws = wr) := ⟨_, rfl⟩
 clear h hg hL hc hz
 go_enter Tryz.func99, Tryz.ntmps99
 go_wp2_with (go_at_call 128; refine (xct HI.out n p1 e1 HCT.out).mono ?_; rintro e w1 ⟨rfl, h1', o1'⟩; have h1 : Hid (C.RInv w1 r ao N cap zs p1 e1) := h1'; have o1 : Hid (C.ROnly ws w1 r) := (by rw [HWS.out]; exact o1'); clear h1' o1')
 go_loopw [5, 10] (fun v z wr => ∃ (k : Nat) (K : List PV) (p : Nat) (e : Int), k <= n /\ z = .int .i64 k /\ K.length = k /\ k <= p /\ PO ws.heap.size wr v K /\ C.RInv wr r ao N cap zs p e /\ C.ROnly ws wr r /\ (K.map PV.core ++ (lsS (prS zs) (n - k) p e).1, (lsS (prS zs) (n - k) p e).2) = (M, P, E)) (fun _ z _ => n - (intOf z).toNat)
 case atStart => exact ⟨0, [], p1, e1, Nat.zero_le _, rfl, rfl, Nat.zero_le _, PO.nil _ _, h1.out, o1.out, HLS.out⟩
 case round =>
  clear h1 o1
  obtain ⟨k, K, p, e, hk, rfl, hKl, hkp, hS', hR', hO', hF'⟩ := hrel
  obtain ⟨va, vc, rfl⟩ := hS'.row.len
  rw [hKl] at hS'
  rw [hKl]
  have HKL : Hid (K.length = k /\ k <= p) := ⟨hKl, hkp⟩
  have HPZ : Hid (p <= zs.length) := hR'.pos
  have HS : Hid (PO ws.heap.size wr (.slice va k vc) K) := hS'
  have HR : Hid (C.RInv wr r ao N cap zs p e) := hR'
  have HO : Hid (C.ROnly ws wr r) := hO'
  have HF : Hid ((K.map PV.core ++ (lsS (prS zs) (n - k) p e).1, (lsS (prS zs) (n - k) p e).2) = (M, P, E)) := hF'
  have hkz : k <= 16777216 := by have := HZ.out; have := hR'.pos; omega
  have HTL : Hid (K.length <= 100000000) := by show _ <= _; omega
  clear hS' hR' hO' hF' hKl hkp
  by_cases hlt : k < n
  ·have klt : (k : Int) < (n : Int) := by omega
   obtain ⟨s, p', e', hR⟩ : ∃ s p' e', prS zs p e = (s, p', e') := ⟨_, _, _, rfl⟩
   have HRR : Hid (prS zs p e = (s, p', e')) := hR
   have HMO : Hid (p <= p' /\ p' <= zs.length) := by have := HRD.out.mono p e HPZ.out; rw [hR] at this; exact this
   have HGO : Hid ((p' = p -> K.map PV.core = M /\ p' = P /\ e' = E) /\ (p' ≠ p -> ((K.map PV.core ++ [s]) ++ (lsS (prS zs) (n - (k + 1)) p' e').1, (lsS (prS zs) (n - (k + 1)) p' e').2) = (M, P, E))) := ls_go HF.out hlt hR
   have ARd : Hid (∀ w', C.ROnly wr w' r -> PO ws.heap.size w' (.slice va k vc) K) := fun w' ho => HS.out.kept fun j hj hjs => ho.block j hjs (fun e => by have := HLR.out; have := HWS.out; subst this; omega)
   have HGG : Hid (∀ g, ao = some ⟨g, 0, none⟩ -> g < wr.heap.size) := fun g eg => Nat.lt_of_lt_of_le (by have := HG.out g eg; rw [HWS.out]; exact this) HO.out.size
   clear hR
   obtain ⟨sa, sl, sp⟩ := s
   by_cases hpp : p' = p
   ·obtain ⟨eL, eP, eE⟩ := HGO.out.1 hpp
    subst hpp
    have HEQ : Hid (K.map PV.core = M /\ p' = P /\ e' = E) := ⟨eL, eP, eE⟩
    clear eL eP eE
    have t1 : (((p' : Nat) : Int) == (p' : Int)) = true := by simp
    go_wp2_with (first
     | (go_at_call 129; guard_hyp HR : Hid (C.RInv wr r ao N cap zs p' e); refine (C.rat_any HR.out).mono ?_; rintro e w' ⟨rfl, rfl⟩; have HR0 : Hid (C.RInv wr r ao N cap zs p' _) := HR; clear HR)
     | (go_at_call 100; refine (xprod HR0.out HGG.out HZ.out sa sl sp p' e' HRR.out).mono ?_; rintro e w2 ⟨ta, tc, rfl, s2', v2', h2', o2'⟩; have h2 : Hid (C.RInv w2 r ao N cap zs p' e') := h2'; have o2 : Hid (C.ROnly ws w2 r) := HO.out.trans o2'; have S2 : Hid (PO ws.heap.size w2 (.slice va k vc) K) := ARd.out w2 o2'; clear h2' o2' s2' v2')
     | (go_at_call 129; refine (C.rat_any (h2.out.later (below_alloc w2 _))).mono ?_; rintro e w' ⟨rfl, rfl⟩))
    go_ret
    have hws := HWS.out
    subst hws
    obtain ⟨rfl, rfl, rfl⟩ := HEQ.out
    have hkl := HKL.out.1
    subst hkl
    exact ⟨va, vc, K, rfl, rfl, S2.out.later (below_alloc _ _), h2.out.later (below_alloc _ _), ro_then o2.out ((below_alloc _ _).mono o2.out.size)⟩
   ·have t1 : (((p' : Nat) : Int) == (p : Int)) = false := by simp only [beq_eq_false_iff_ne, ne_eq]; omega
    go_wp2_with (first
     | (go_at_call 129; guard_hyp HR : Hid (C.RInv wr r ao N cap zs p e); refine (C.rat_any HR.out).mono ?_; rintro e w' ⟨rfl, rfl⟩; have HR0 : Hid (C.RInv wr r ao N cap zs p _) := HR; clear HR)
     | (go_at_call 100; refine (xprod HR0.out HGG.out HZ.out sa sl sp p' e' HRR.out).mono ?_; rintro e w2 ⟨ta, tc, rfl, s2', v2', h2', o2'⟩; have h2 : Hid (C.RInv w2 r ao N cap zs p' e') := h2'; have o2 : Hid (C.ROnly ws w2 r) := HO.out.trans o2'; have S2 : Hid (PO ws.heap.size w2 (.slice va k vc) K) := ARd.out w2 o2'; have I2 : Hid (SY w2 (.slice ta sl.length tc) sl) := s2'; have V2 : Hid (∀ j, (Value.slice ta sl.length tc).ownBlock = some j -> ws.heap.size <= j /\ (Value.slice va k vc).ownBlock ≠ some j /\ ∀ x ∈ K, (Value.slice x.ra x.right.length x.rc).ownBlock ≠ some j) := (fun j hj => ⟨Nat.le_trans HO.out.size (v2' j hj), fun e => (by have := HS.out.row.lt j e; have := v2' j hj; omega), fun x hx e => (by have := (HS.out.each x hx).lt j e; have := v2' j hj; omega)⟩); clear h2' o2' s2' v2')
     | (go_at_call 129; refine (C.rat_any (h2.out.later (below_alloc w2 _))).mono ?_; rintro e w' ⟨rfl, rfl⟩)
     | (at_builtin; refine wpList_PY_append_w rfl _ _ rfl _ K rfl ((S2.out.later (below_alloc w2 _)).later (below_alloc _ _)).row _ 1 ⟨sa, ta, tc, sl, sp⟩ rfl (new3 w2 _ _ _ _ _) HTL.out ?_; intro a4 n4 c4 w4 ho4 hg4))
    go_roundw
    case rel =>
     have hsz : ws.heap.size <= w2.heap.size := o2.out.size
     have hb1 : Below w2.heap.size w2 ((w2.alloc (.cells #[.int .i64 sa, .slice ta sl.length tc, .int .i64 sp] 75)).alloc (.cells #[.int .i64 sa, .slice ta sl.length tc, .int .i64 sp] 75)) := (below_alloc w2 _).trans ((below_alloc _ _).mono (below_alloc w2 _).size)
     have hb2 : Below ws.heap.size ((w2.alloc (.cells #[.int .i64 sa, .slice ta sl.length tc, .int .i64 sp] 75)).alloc (.cells #[.int .i64 sa, .slice ta sl.length tc, .int .i64 sp] 75)) w4 := (Below.refl _ _).grown hg4.grown (Nat.le_trans hsz hb1.size) S2.out.lo
     have hb3 : Below ws.heap.size w2 w4 := (hb1.mono hsz).trans hb2
     have hws := HWS.out
     have hmo := HMO.out
     have hkl := HKL.out
     refine ⟨k + 1, K ++ [⟨sa, ta, tc, sl, sp⟩], p', e', by omega, by go_num, by simp [hkl.1], by omega, ?_, ?_, ro_then o2.out hb3, ?_⟩
     ·exact (S2.out.later hb1).append ho4 hg4 (Nat.le_trans hsz hb1.size) (I2.out.later hb1) V2.out
     ·exact rinv_kept2 h2.out (hb3.block r (by rw [hws]; exact HLR.out)) (fun g eg => hb3.block g (by rw [hws]; exact HG.out g eg))
     ·rw [List.map_append]; exact HGO.out.2 hpp
    case measure => simp [intOf]; omega
  ·obtain rfl : k = n := by omega
   obtain ⟨eL, eP, eE⟩ := ls_end HF.out
   have HEQ : Hid (K.map PV.core = M /\ p = P /\ e = E) := ⟨eL, eP, eE⟩
   clear eL eP eE
   go_wp2
   go_ret
   have hws := HWS.out
   subst hws
   obtain ⟨rfl, rfl, rfl⟩ := HEQ.out
   have hkl := HKL.out.1
   subst hkl
   exact ⟨va, vc, K, rfl, rfl, HS.out, HR.out, HO.out⟩
theorem xgram {wr : World} {r : Nat} {ao : Option Addr} {N cap : Nat} {zs : List Int} {pos : Nat} {err : Int} (h : C.RInv wr r ao N cap zs pos err) (hg : ∀ g, ao = some ⟨g, 0, none⟩ -> g < wr.heap.size) (hz : zs.length <= 16777216) (gc : GC) (P : Nat) (E : Int) (hL : grS zs pos err = (gc, P, E)) :
  Calls Tryz.prog 38 #[.pointer (some ⟨r, 0, none⟩)] wr fun e w' => ∃ g', e = .returned g'.val /\ g'.core = gc /\ DG wr.heap.size w' g' /\ C.RInv w' r ao N cap zs P E /\ C.ROnly wr w' r := by
 obtain ⟨gt, p1, e1, ha⟩ : ∃ gt p1 e1, liS zs (txS zs) pos err = (gt, p1, e1) := ⟨_, _, _, rfl⟩
 obtain ⟨gn, p2, e2, hb⟩ : ∃ gn p2 e2, liS zs (txS zs) p1 e1 = (gn, p2, e2) := ⟨_, _, _, rfl⟩
 obtain ⟨gs, p3, e3, hc⟩ : ∃ gs p3 e3, itS zs p2 e2 = (gs, p3, e3) := ⟨_, _, _, rfl⟩
 obtain ⟨gp, p4, e4, hd⟩ : ∃ gp p4 e4, liS zs (prS zs) p3 e3 = (gp, p4, e4) := ⟨_, _, _, rfl⟩
 obtain ⟨gl, p5, e5, he⟩ : ∃ gl p5 e5, liS zs (lvS zs) p4 e4 = (gl, p5, e5) := ⟨_, _, _, rfl⟩
 rw [grS, bdS, ha] at hL
 simp only [bdS, hb, hc, hd, he, Prod.mk.injEq] at hL
 obtain ⟨rfl, rfl, rfl⟩ := hL
 have HS : Hid (liS zs (txS zs) pos err = (gt, p1, e1) /\ liS zs (txS zs) p1 e1 = (gn, p2, e2) /\ itS zs p2 e2 = (gs, p3, e3) /\ liS zs (prS zs) p3 e3 = (gp, p4, e4) /\ liS zs (lvS zs) p4 e4 = (gl, p5, e5) /\ zs.length <= 16777216) := ⟨ha, hb, hc, hd, he, hz⟩
 obtain ⟨hb0, hx0, hx1⟩ := two_alloc wr (.cells #[.slice none 0 0, .slice none 0 0, .int .i64 0, .slice none 0 0, .slice none 0 0] 26) (.cells #[.slice none 0 0, .slice none 0 0, .int .i64 0, .slice none 0 0, .slice none 0 0] 26)
 have hlt := h.lt
 have HO : Hid (C.ROnly wr ((wr.alloc (.cells #[.slice none 0 0, .slice none 0 0, .int .i64 0, .slice none 0 0, .slice none 0 0] 26)).alloc (.cells #[.slice none 0 0, .slice none 0 0, .int .i64 0, .slice none 0 0, .slice none 0 0] 26)) r) := C.ROnly.ofBelow hb0
 have HC : Hid (C.RInv ((wr.alloc (.cells #[.slice none 0 0, .slice none 0 0, .int .i64 0, .slice none 0 0, .slice none 0 0] 26)).alloc (.cells #[.slice none 0 0, .slice none 0 0, .int .i64 0, .slice none 0 0, .slice none 0 0] 26)) r ao N cap zs pos err) := h.later hb0
 have HH : Hid (C.RInv wr r ao N cap zs pos err) := h
 have HG : Hid (∀ w' : World, wr.heap.size <= w'.heap.size -> ∀ g, ao = some ⟨g, 0, none⟩ -> g < w'.heap.size) := fun w' hw g eg => Nat.lt_of_lt_of_le (hg g eg) hw
 have hn0 : (wr.heap.size + 2) <= ((wr.alloc (.cells #[.slice none 0 0, .slice none 0 0, .int .i64 0, .slice none 0 0, .slice none 0 0] 26)).alloc (.cells #[.slice none 0 0, .slice none 0 0, .int .i64 0, .slice none 0 0, .slice none 0 0] 26)).heap.size := lt_of_block hx1
 have HN0 : Hid ((wr.heap.size + 2) <= ((wr.alloc (.cells #[.slice none 0 0, .slice none 0 0, .int .i64 0, .slice none 0 0, .slice none 0 0] 26)).alloc (.cells #[.slice none 0 0, .slice none 0 0, .int .i64 0, .slice none 0 0, .slice none 0 0] 26)).heap.size) := hn0
 have AX : Hid (∀ w1 : World, C.ROnly ((wr.alloc (.cells #[.slice none 0 0, .slice none 0 0, .int .i64 0, .slice none 0 0, .slice none 0 0] 26)).alloc (.cells #[.slice none 0 0, .slice none 0 0, .int .i64 0, .slice none 0 0, .slice none 0 0] 26)) w1 r -> w1.heap[wr.heap.size]? = some (.cells #[.slice none 0 0, .slice none 0 0, .int .i64 0, .slice none 0 0, .slice none 0 0] 26 (0, 0)) /\ w1.heap[wr.heap.size + 1]? = some (.cells #[.slice none 0 0, .slice none 0 0, .int .i64 0, .slice none 0 0, .slice none 0 0] 26 (0, 0))) := fun w1 ho => ⟨(ho.block _ (lt_of_block hx0) (by omega)).trans hx0, (ho.block _ (lt_of_block hx1) (by omega)).trans hx1⟩
 clear h ha hb hc hd he hz hg hb0 hx0 hx1 hn0
 go_enter Tryz.func38, Tryz.ntmps38
 go_wp2_with (first
  | (go_at_call 96; refine (xl_str h1.out (HG.out _ o1.out.size) HS.out.2.2.2.2.2 gn p2 e2 HS.out.2.1).mono ?_; rintro e w2 ⟨na, nc, rfl, s', v', h', o'⟩; have TN : Hid (∀ j, (Value.slice ta gt.length tc).ownBlock = some j -> (Value.slice na gn.length nc).ownBlock ≠ some j) := (fun j hj hk => by have := G1.out.1.lt j hj; have := v' j hk; omega); have e2q := two_keep hlt 0 (.slice ta gt.length tc) E1.out o'; clear z1 y1; have z2 : w2.cell? ⟨wr.heap.size + 1, 1, none⟩ = some (.slice none 0 0) := (by rw [cellq_any e2q.2]; rfl); have y2 : w2.frozen? ⟨wr.heap.size + 1, 1, none⟩ = false := (by simp [World.frozen?, e2q.2]); have h2 : Hid (C.RInv (w2.setCell ⟨wr.heap.size + 1, 1, none⟩ (.slice na gn.length nc)) r ao N cap zs p2 e2) := HH.out.patched h' (own_set _ _ _ (by omega)); have o2 : Hid (C.ROnly wr (w2.setCell ⟨wr.heap.size + 1, 1, none⟩ (.slice na gn.length nc)) r) := (o1.out.trans o').patched (own_set _ _ _ (by omega)); have E2 : Hid _ := e2q; have SZ2 : Hid ((wr.heap.size + 2) <= (w2.setCell ⟨wr.heap.size + 1, 1, none⟩ (.slice na gn.length nc)).heap.size) := lt_of_block (heap_set e2q.2 _ _); clear hz1; have hz1 : wr.heap.size + 1 < w2.heap.size := lt_of_block e2q.2; have G1 : Hid (GO (wr.heap.size + 2) (w2.setCell ⟨wr.heap.size + 1, 1, none⟩ (.slice na gn.length nc)) (.slice ta gt.length tc) gt) := G1.out.kept (keep_set hlt 1 (.slice na gn.length nc) o'); have G2 : Hid (GO (wr.heap.size + 2) (w2.setCell ⟨wr.heap.size + 1, 1, none⟩ (.slice na gn.length nc)) (.slice na gn.length nc) gn) := (GO.kept ⟨s', fun j hj => Nat.le_trans SZ1.out (v' j hj)⟩ (set_keep 1 (.slice na gn.length nc))); clear h' o' s' v' e2q)
  | (go_at_call 96; refine (xl_str HC.out (HG.out _ HO.out.size) HS.out.2.2.2.2.2 gt p1 e1 HS.out.1).mono ?_; rintro e w1 ⟨ta, tc, rfl, s', v', h', o'⟩; have e1q := AX.out w1 o'; have z1 : w1.cell? ⟨wr.heap.size + 1, 0, none⟩ = some (.slice none 0 0) := (by rw [cellq_any e1q.2]; rfl); have y1 : w1.frozen? ⟨wr.heap.size + 1, 0, none⟩ = false := (by simp [World.frozen?, e1q.2]); have h1 : Hid (C.RInv (w1.setCell ⟨wr.heap.size + 1, 0, none⟩ (.slice ta gt.length tc)) r ao N cap zs p1 e1) := HH.out.patched h' (own_set _ _ _ (by omega)); have o1 : Hid (C.ROnly wr (w1.setCell ⟨wr.heap.size + 1, 0, none⟩ (.slice ta gt.length tc)) r) := (HO.out.trans o').patched (own_set _ _ _ (by omega)); have E1 : Hid _ := e1q; have SZ1 : Hid ((wr.heap.size + 2) <= (w1.setCell ⟨wr.heap.size + 1, 0, none⟩ (.slice ta gt.length tc)).heap.size) := lt_of_block (heap_set e1q.2 _ _); have hz1 : wr.heap.size + 1 < w1.heap.size := lt_of_block e1q.2; have G1 : Hid (GO (wr.heap.size + 2) (w1.setCell ⟨wr.heap.size + 1, 0, none⟩ (.slice ta gt.length tc)) (.slice ta gt.length tc) gt) := (GO.kept ⟨s', fun j hj => Nat.le_trans HN0.out (v' j hj)⟩ (set_keep 0 (.slice ta gt.length tc))); clear h' o' s' v' e1q)
  | (go_at_call 98; refine (xint h2.out gs p3 e3 HS.out.2.2.1).mono ?_; rintro e w3 ⟨rfl, h', o'⟩; have e3q := two_keep hlt 1 (.slice na gn.length nc) E2.out o'; clear z2 y2; have z3 : w3.cell? ⟨wr.heap.size + 1, 2, none⟩ = some (.int .i64 0) := (by rw [cellq_any e3q.2]; rfl); have y3 : w3.frozen? ⟨wr.heap.size + 1, 2, none⟩ = false := (by simp [World.frozen?, e3q.2]); have h3 : Hid (C.RInv (w3.setCell ⟨wr.heap.size + 1, 2, none⟩ (.int .i64 gs)) r ao N cap zs p3 e3) := HH.out.patched h' (own_set _ _ _ (by omega)); have o3 : Hid (C.ROnly wr (w3.setCell ⟨wr.heap.size + 1, 2, none⟩ (.int .i64 gs)) r) := (o2.out.trans o').patched (own_set _ _ _ (by omega)); have E3 : Hid _ := e3q; have SZ3 : Hid ((wr.heap.size + 2) <= (w3.setCell ⟨wr.heap.size + 1, 2, none⟩ (.int .i64 gs)).heap.size) := lt_of_block (heap_set e3q.2 _ _); clear hz1; have hz1 : wr.heap.size + 1 < w3.heap.size := lt_of_block e3q.2; have G1 : Hid (GO (wr.heap.size + 2) (w3.setCell ⟨wr.heap.size + 1, 2, none⟩ (.int .i64 gs)) (.slice ta gt.length tc) gt) := G1.out.kept (keep_set hlt 2 (.int .i64 gs) o'); have G2 : Hid (GO (wr.heap.size + 2) (w3.setCell ⟨wr.heap.size + 1, 2, none⟩ (.int .i64 gs)) (.slice na gn.length nc) gn) := G2.out.kept (keep_set hlt 2 (.int .i64 gs) o'); clear h' o' e3q)
  | (go_at_call 99; refine (xl_prod h3.out (HG.out _ o3.out.size) HS.out.2.2.2.2.2 gp p4 e4 HS.out.2.2.2.1).mono ?_; rintro e w4 ⟨pa, pc, PL, rfl, m', s', h', o'⟩; have e4q := two_keep hlt 2 (.int .i64 gs) E3.out o'; clear z3 y3; have z4 : w4.cell? ⟨wr.heap.size + 1, 3, none⟩ = some (.slice none 0 0) := (by rw [cellq_any e4q.2]; rfl); have y4 : w4.frozen? ⟨wr.heap.size + 1, 3, none⟩ = false := (by simp [World.frozen?, e4q.2]); have h4 : Hid (C.RInv (w4.setCell ⟨wr.heap.size + 1, 3, none⟩ (.slice pa PL.length pc)) r ao N cap zs p4 e4) := HH.out.patched h' (own_set _ _ _ (by omega)); have o4 : Hid (C.ROnly wr (w4.setCell ⟨wr.heap.size + 1, 3, none⟩ (.slice pa PL.length pc)) r) := (o3.out.trans o').patched (own_set _ _ _ (by omega)); have E4 : Hid _ := e4q; have SZ4 : Hid ((wr.heap.size + 2) <= (w4.setCell ⟨wr.heap.size + 1, 3, none⟩ (.slice pa PL.length pc)).heap.size) := lt_of_block (heap_set e4q.2 _ _); clear hz1; have hz1 : wr.heap.size + 1 < w4.heap.size := lt_of_block e4q.2; have G1 : Hid (GO (wr.heap.size + 2) (w4.setCell ⟨wr.heap.size + 1, 3, none⟩ (.slice pa PL.length pc)) (.slice ta gt.length tc) gt) := G1.out.kept (keep_set hlt 3 (.slice pa PL.length pc) o'); have G2 : Hid (GO (wr.heap.size + 2) (w4.setCell ⟨wr.heap.size + 1, 3, none⟩ (.slice pa PL.length pc)) (.slice na gn.length nc) gn) := G2.out.kept (keep_set hlt 3 (.slice pa PL.length pc) o'); have G4 : Hid (PO (wr.heap.size + 2) (w4.setCell ⟨wr.heap.size + 1, 3, none⟩ (.slice pa PL.length pc)) (.slice pa PL.length pc) PL) := (s'.mono SZ3.out).kept (set_keep 3 (.slice pa PL.length pc)); have M4 : Hid _ := m'; clear h' o' s' m' e4q)
  | (go_at_call 101; refine (xl_lev h4.out (HG.out _ o4.out.size) HS.out.2.2.2.2.2 gl p5 e5 HS.out.2.2.2.2.1).mono ?_; rintro e w5 ⟨la, lc, LL, rfl, m', s', h', o'⟩; have e5q := two_keep hlt 3 (.slice pa PL.length pc) E4.out o'; clear z4 y4; have z5 : w5.cell? ⟨wr.heap.size + 1, 4, none⟩ = some (.slice none 0 0) := (by rw [cellq_any e5q.2]; rfl); have y5 : w5.frozen? ⟨wr.heap.size + 1, 4, none⟩ = false := (by simp [World.frozen?, e5q.2]); have h5 : Hid (C.RInv (w5.setCell ⟨wr.heap.size + 1, 4, none⟩ (.slice la LL.length lc)) r ao N cap zs p5 e5) := HH.out.patched h' (own_set _ _ _ (by omega)); have o5 : Hid (C.ROnly wr (w5.setCell ⟨wr.heap.size + 1, 4, none⟩ (.slice la LL.length lc)) r) := (o4.out.trans o').patched (own_set _ _ _ (by omega)); have E5 : Hid _ := e5q; have SZ5 : Hid ((wr.heap.size + 2) <= (w5.setCell ⟨wr.heap.size + 1, 4, none⟩ (.slice la LL.length lc)).heap.size) := lt_of_block (heap_set e5q.2 _ _); clear hz1; have hz1 : wr.heap.size + 1 < w5.heap.size := lt_of_block e5q.2; have G1 : Hid (GO (wr.heap.size + 2) (w5.setCell ⟨wr.heap.size + 1, 4, none⟩ (.slice la LL.length lc)) (.slice ta gt.length tc) gt) := G1.out.kept (keep_set hlt 4 (.slice la LL.length lc) o'); have G2 : Hid (GO (wr.heap.size + 2) (w5.setCell ⟨wr.heap.size + 1, 4, none⟩ (.slice la LL.length lc)) (.slice na gn.length nc) gn) := G2.out.kept (keep_set hlt 4 (.slice la LL.length lc) o'); have G4 : Hid (PO (wr.heap.size + 2) (w5.setCell ⟨wr.heap.size + 1, 4, none⟩ (.slice la LL.length lc)) (.slice pa PL.length pc) PL) := G4.out.kept (keep_set hlt 4 (.slice la LL.length lc) o'); have G5 : Hid (LO (wr.heap.size + 2) (w5.setCell ⟨wr.heap.size + 1, 4, none⟩ (.slice la LL.length lc)) (.slice la LL.length lc) LL) := (s'.mono SZ4.out).kept (set_keep 4 (.slice la LL.length lc)); have M5 : Hid _ := m'; have zz0 : w5.cell? ⟨wr.heap.size + 1, 0, none⟩ = some (.slice ta gt.length tc) := (by rw [cellq_any e5q.2]; rfl); have zz1 : w5.cell? ⟨wr.heap.size + 1, 1, none⟩ = some (.slice na gn.length nc) := (by rw [cellq_any e5q.2]; rfl); have zz2 : w5.cell? ⟨wr.heap.size + 1, 2, none⟩ = some (.int .i64 gs) := (by rw [cellq_any e5q.2]; rfl); have zz3 : w5.cell? ⟨wr.heap.size + 1, 3, none⟩ = some (.slice pa PL.length pc) := (by rw [cellq_any e5q.2]; rfl); have x0 : w5.cell? ⟨wr.heap.size, 0, none⟩ = some (.slice none 0 0) := (by rw [cellq_any e5q.1]; rfl); have yx0 : w5.frozen? ⟨wr.heap.size, 0, none⟩ = false := (by simp [World.frozen?, e5q.1]); have x1 : w5.cell? ⟨wr.heap.size, 1, none⟩ = some (.slice none 0 0) := (by rw [cellq_any e5q.1]; rfl); have yx1 : w5.frozen? ⟨wr.heap.size, 1, none⟩ = false := (by simp [World.frozen?, e5q.1]); have x2 : w5.cell? ⟨wr.heap.size, 2, none⟩ = some (.int .i64 0) := (by rw [cellq_any e5q.1]; rfl); have yx2 : w5.frozen? ⟨wr.heap.size, 2, none⟩ = false := (by simp [World.frozen?, e5q.1]); have x3 : w5.cell? ⟨wr.heap.size, 3, none⟩ = some (.slice none 0 0) := (by rw [cellq_any e5q.1]; rfl); have yx3 : w5.frozen? ⟨wr.heap.size, 3, none⟩ = false := (by simp [World.frozen?, e5q.1]); have x4 : w5.cell? ⟨wr.heap.size, 4, none⟩ = some (.slice none 0 0) := (by rw [cellq_any e5q.1]; rfl); have yx4 : w5.frozen? ⟨wr.heap.size, 4, none⟩ = false := (by simp [World.frozen?, e5q.1]); have hz2 : wr.heap.size < w5.heap.size := lt_of_block e5q.1; clear h' o' s' m' e5q))
 have hb9 : Below wr.heap.size (w5.setCell ⟨wr.heap.size + 1, 4, none⟩ (.slice la LL.length lc)) ((((((w5.setCell ⟨wr.heap.size + 1, 4, none⟩ (.slice la LL.length lc)).setCell ⟨wr.heap.size, 0, none⟩ (.slice ta gt.length tc)).setCell ⟨wr.heap.size, 1, none⟩ (.slice na gn.length nc)).setCell ⟨wr.heap.size, 2, none⟩ (.int .i64 gs)).setCell ⟨wr.heap.size, 3, none⟩ (.slice pa PL.length pc)).setCell ⟨wr.heap.size, 4, none⟩ (.slice la LL.length lc)) :=
  ((((own_set _ _ _ (Nat.le_refl _)).trans (own_set _ _ _ (Nat.le_refl _))).trans (own_set _ _ _ (Nat.le_refl _))).trans (own_set _ _ _ (Nat.le_refl _))).trans (own_set _ _ _ (Nat.le_refl _))
 have hk9 : ∀ k, wr.heap.size + 2 <= k -> k < (w5.setCell ⟨wr.heap.size + 1, 4, none⟩ (.slice la LL.length lc)).heap.size -> ((((((w5.setCell ⟨wr.heap.size + 1, 4, none⟩ (.slice la LL.length lc)).setCell ⟨wr.heap.size, 0, none⟩ (.slice ta gt.length tc)).setCell ⟨wr.heap.size, 1, none⟩ (.slice na gn.length nc)).setCell ⟨wr.heap.size, 2, none⟩ (.int .i64 gs)).setCell ⟨wr.heap.size, 3, none⟩ (.slice pa PL.length pc)).setCell ⟨wr.heap.size, 4, none⟩ (.slice la LL.length lc)).heap[k]? = (w5.setCell ⟨wr.heap.size + 1, 4, none⟩ (.slice la LL.length lc)).heap[k]? := fun k hk _ => by
  have hne : k ≠ wr.heap.size := by omega
  rw [Below.heap_setCell _ _ _ _ hne, Below.heap_setCell _ _ _ _ hne, Below.heap_setCell _ _ _ _ hne, Below.heap_setCell _ _ _ _ hne, Below.heap_setCell _ _ _ _ hne]
 refine bodyPost_ret (v := .agg #[.slice ta gt.length tc, .slice na gn.length nc, .int .i64 gs, .slice pa PL.length pc, .slice la LL.length lc]) (by simp [results, Tryz.results38, go_sem, x0, x1, x2, x3, x4]) rfl ?_
 refine ⟨⟨ta, tc, gt, na, nc, gn, gs, pa, pc, PL, la, lc, LL⟩, ?_, ?_, ⟨?_, ?_, ?_, ?_, TN.out⟩, ?_, o5.out.patched hb9⟩
 ·rfl
 ·show (gt, gn, gs, PL.map PV.core, LL.map LV.core) = _; rw [M4.out, M5.out]
 ·exact (G1.out.kept hk9).mono (by omega)
 ·exact (G2.out.kept hk9).mono (by omega)
 ·exact (G4.out.kept hk9).mono (by omega)
 ·exact (G5.out.kept hk9).mono (by omega)
 ·exact HH.out.patched h5.out hb9
end Go.Proofs.YthgnhdnmcjpdmaaGreatDoor
