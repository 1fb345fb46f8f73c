import Derived.Test.YtmkakdfdfdcncaaGreatDoorGE4
import Derived.Test.YtmkakdfdfdcncaaGreatDoorGDec5ToGDec8
namespace Go.Proofs.YtmkakdfdfdcncaaGreatDoor
set_option linter.unusedVariables false
open Go.RowKit

set_option maxRecDepth 100000 in
set_option maxHeartbeats 2000000 in
theorem xlev {wr : World} {r : Nat} {ao : Option Addr} {N cap : Nat} {zs : List Int} {pos : Nat} {err : Int} (h : C.RInv wr r ao N cap zs pos err) (hg : ∀ g, ao = some ⟨g, 0, none⟩ → g < wr.heap.size) (hz : zs.length ≤ 16777216) (a : Int) (l : List Int) (P : Nat) (E : Int) (hL : lvS zs pos err = ((a, l), P, E)) :
    Calls Tryz.prog 160 #[.pointer (some ⟨r, 0, none⟩)] wr fun e w' => ∃ ta tc, e = .returned (.agg #[.int .i64 a, .slice ta l.length tc]) ∧ IL w' (.slice ta l.length tc) l ∧ (∀ k, (Value.slice ta l.length tc).ownBlock = some k → wr.heap.size ≤ k) ∧ C.RInv w' r ao N cap zs P E ∧ C.ROnly wr w' r := by
  obtain ⟨a', p1, i1, h1a⟩ : ∃ a' p1 i1, itS zs pos err = (a', p1, i1) := ⟨_, _, _, rfl⟩
  obtain ⟨l', p2, i2, h1b⟩ : ∃ l' p2 i2, liS zs (itS zs) p1 i1 = (l', p2, i2) := ⟨_, _, _, rfl⟩
  rw [lvS, bdS, h1a] at hL
  simp only [h1b, Prod.mk.injEq] at hL
  obtain ⟨⟨rfl, rfl⟩, rfl, rfl⟩ := hL
  have HA : Hid (itS zs pos err = (a', p1, i1)) := h1a
  have HB : Hid (liS zs (itS zs) p1 i1 = (l', p2, i2)) := h1b
  have HZZ : Hid (zs.length ≤ 16777216) := hz
  obtain ⟨hb0, hx0, hx1⟩ := two_alloc wr (.cells #[.int .i64 0, .slice none 0 0] 100) (.cells #[.int .i64 0, .slice none 0 0] 100)
  have hlt := h.lt
  have HO : Hid (C.ROnly wr ((wr.alloc (.cells #[.int .i64 0, .slice none 0 0] 100)).alloc (.cells #[.int .i64 0, .slice none 0 0] 100)) r) := C.ROnly.ofBelow hb0
  have HC : Hid (C.RInv ((wr.alloc (.cells #[.int .i64 0, .slice none 0 0] 100)).alloc (.cells #[.int .i64 0, .slice none 0 0] 100)) r ao N cap zs pos err) := h.later hb0
  have HH : Hid (C.RInv wr r ao N cap zs pos err) := h
  have HG : Hid (∀ g, ao = some ⟨g, 0, none⟩ → g < wr.heap.size) := hg
  have AX : Hid (∀ w1 : World, C.ROnly ((wr.alloc (.cells #[.int .i64 0, .slice none 0 0] 100)).alloc (.cells #[.int .i64 0, .slice none 0 0] 100)) w1 r → w1.heap[wr.heap.size]? = some (.cells #[.int .i64 0, .slice none 0 0] 100 (0, 0)) ∧ w1.heap[wr.heap.size + 1]? = some (.cells #[.int .i64 0, .slice none 0 0] 100 (0, 0))) := fun w1 ho => ⟨(ho.block _ (lt_of_block hx0) (by omega)).trans hx0, (ho.block _ (lt_of_block hx1) (by omega)).trans hx1⟩
  have AY : Hid (∀ w1 w2 : World, (w1.heap[wr.heap.size]? = some (.cells #[.int .i64 0, .slice none 0 0] 100 (0, 0)) ∧ w1.heap[wr.heap.size + 1]? = some (.cells #[.int .i64 0, .slice none 0 0] 100 (0, 0))) → C.ROnly (w1.setCell ⟨wr.heap.size + 1, 0, none⟩ (.int .i64 a')) w2 r → w2.heap[wr.heap.size]? = some (.cells #[.int .i64 0, .slice none 0 0] 100 (0, 0)) ∧ w2.heap[wr.heap.size + 1]? = some (.cells #[.int .i64 a', .slice none 0 0] 100 (0, 0))) := fun w1 w2 e1 ho =>
    have ek : (w1.setCell ⟨wr.heap.size + 1, 0, none⟩ (.int .i64 a')).heap[wr.heap.size]? = some (.cells #[.int .i64 0, .slice none 0 0] 100 (0, 0)) := (Below.heap_setCell _ _ _ _ (show wr.heap.size ≠ wr.heap.size + 1 by omega)).trans e1.1
    ⟨(ho.block _ (lt_of_block ek) (by omega)).trans ek, (ho.block _ (lt_of_block (heap_set e1.2 _ _)) (by omega)).trans (heap_set e1.2 0 (.int .i64 a'))⟩
  clear h hg hz hb0 hx0 hx1 h1a h1b
  go_enter Tryz.func160, Tryz.ntmps160
  go_wp2_with (first
    | (go_at_call 156; refine (xint HC.out a' p1 i1 HA.out).mono ?_; rintro e w1 ⟨rfl, h1', o1'⟩; have e1 := AX.out w1 o1'; have z0 : w1.cell? ⟨wr.heap.size + 1, 0, none⟩ = some (.int .i64 0) := (by rw [cellq_any e1.2]; rfl); have y0 : w1.frozen? ⟨wr.heap.size + 1, 0, none⟩ = false := (by simp [World.frozen?, e1.2]); have h1 : Hid (C.RInv (w1.setCell ⟨wr.heap.size + 1, 0, none⟩ (.int .i64 a')) r ao N cap zs p1 i1) := HH.out.patched h1' (own_set _ _ _ (by omega)); have o1 : Hid (C.ROnly wr (w1.setCell ⟨wr.heap.size + 1, 0, none⟩ (.int .i64 a')) r) := (HO.out.trans o1').patched (own_set _ _ _ (by omega)); have hz1 : wr.heap.size + 1 < w1.heap.size := lt_of_block e1.2; have E1 : Hid _ := e1; clear h1' o1' e1)
    | (go_at_call 200; refine (xl_int h1.out (fun g eg => Nat.lt_of_lt_of_le (HG.out g eg) o1.out.size) HZZ.out l' p2 i2 HB.out).mono ?_; rintro e w2 ⟨ta, tc, rfl, s2', v2', h2', o2'⟩; have e2 := AY.out w1 w2 E1.out o2'; clear z0 y0; have z0 : w2.cell? ⟨wr.heap.size + 1, 0, none⟩ = some (.int .i64 a') := (by rw [cellq_any e2.2]; rfl); have z1 : w2.cell? ⟨wr.heap.size + 1, 1, none⟩ = some (.slice none 0 0) := (by rw [cellq_any e2.2]; rfl); have y1 : w2.frozen? ⟨wr.heap.size + 1, 1, none⟩ = false := (by simp [World.frozen?, e2.2]); have x0 : w2.cell? ⟨wr.heap.size, 0, none⟩ = some (.int .i64 0) := (by rw [cellq_any e2.1]; rfl); have x1 : w2.cell? ⟨wr.heap.size, 1, none⟩ = some (.slice none 0 0) := (by rw [cellq_any e2.1]; rfl); have y2 : w2.frozen? ⟨wr.heap.size, 0, none⟩ = false := (by simp [World.frozen?, e2.1]); have y3 : w2.frozen? ⟨wr.heap.size, 1, none⟩ = false := (by simp [World.frozen?, e2.1]); have H2 : Hid _ := h2'; have O2 : Hid _ := o1.out.trans o2'; have S2 : Hid _ := s2'; have V2 : Hid _ := v2'; have SZ : Hid (wr.heap.size + 1 < (w1.setCell ⟨wr.heap.size + 1, 0, none⟩ (.int .i64 a')).heap.size) := lt_of_block (heap_set E1.out.2 _ _); clear hz1; have hz1 : wr.heap.size + 1 < w2.heap.size := lt_of_block e2.2; have hz2 : wr.heap.size < w2.heap.size := lt_of_block e2.1; clear h2' o2' s2' v2'))
  have hb9 : Below wr.heap.size w2 (((w2.setCell ⟨wr.heap.size + 1, 1, none⟩ (.slice ta l'.length tc)).setCell ⟨wr.heap.size, 0, none⟩ (.int .i64 a')).setCell ⟨wr.heap.size, 1, none⟩ (.slice ta l'.length tc)) :=
    ((own_set _ _ _ (by omega)).trans (own_set _ _ _ (by omega))).trans (own_set _ _ _ (by omega))
  refine bodyPost_ret (v := .agg #[.int .i64 a', .slice ta l'.length tc]) (by simp [results, Tryz.results160, go_sem, x0, x1]) rfl ?_
  have hk : ∀ k, (Value.slice ta l'.length tc).ownBlock = some k → wr.heap.size + 1 < k := fun k hk => Nat.lt_of_lt_of_le SZ.out (V2.out k hk)
  refine ⟨ta, tc, rfl, ?_, fun k hk' => (by have := hk k hk'; omega), HH.out.patched H2.out hb9, O2.out.patched hb9⟩
  exact IL.kept S2.out fun k hk' => by
    have := hk k hk'
    rw [Below.heap_setCell _ _ _ _ (show k ≠ wr.heap.size by omega), Below.heap_setCell _ _ _ _ (show k ≠ wr.heap.size by omega), Below.heap_setCell _ _ _ _ (show k ≠ wr.heap.size + 1 by omega)]
set_option maxRecDepth 100000 in
set_option maxHeartbeats 2000000 in
theorem xprod {wr : World} {r : Nat} {ao : Option Addr} {N cap : Nat} {zs : List Int} {pos : Nat} {err : Int} (h : C.RInv wr r ao N cap zs pos err) (hg : ∀ g, ao = some ⟨g, 0, none⟩ → g < wr.heap.size) (hz : zs.length ≤ 16777216) (a : Int) (l : List (Int × Int)) (c : Int) (P : Nat) (E : Int) (hL : prS zs pos err = ((a, l, c), P, E)) :
    Calls Tryz.prog 158 #[.pointer (some ⟨r, 0, none⟩)] wr fun e w' => ∃ ra rc, e = .returned (.agg #[.int .i64 a, .slice ra l.length rc, .int .i64 c]) ∧ SY w' (.slice ra l.length rc) l ∧ (∀ k, (Value.slice ra l.length rc).ownBlock = some k → wr.heap.size ≤ k) ∧ C.RInv w' r ao N cap zs P E ∧ C.ROnly wr w' r := by
  obtain ⟨a', p1, i1, h1a⟩ : ∃ a' p1 i1, itS zs pos err = (a', p1, i1) := ⟨_, _, _, rfl⟩
  obtain ⟨l', p2, i2, h1b⟩ : ∃ l' p2 i2, liS zs (syS zs) p1 i1 = (l', p2, i2) := ⟨_, _, _, rfl⟩
  obtain ⟨c', p3, i3, h1c⟩ : ∃ c' p3 i3, sgS zs p2 i2 = (c', p3, i3) := ⟨_, _, _, rfl⟩
  rw [prS, bdS, h1a] at hL
  simp only [bdS, h1b, h1c, Prod.mk.injEq] at hL
  obtain ⟨⟨rfl, rfl, rfl⟩, rfl, rfl⟩ := hL
  have HA : Hid (itS zs pos err = (a', p1, i1)) := h1a
  have HB : Hid (liS zs (syS zs) p1 i1 = (l', p2, i2)) := h1b
  have HCC : Hid (sgS zs p2 i2 = (c', p3, i3)) := h1c
  have HZZ : Hid (zs.length ≤ 16777216) := hz
  obtain ⟨hb0, hx0, hx1⟩ := two_alloc wr (.cells #[.int .i64 0, .slice none 0 0, .int .i64 0] 72) (.cells #[.int .i64 0, .slice none 0 0, .int .i64 0] 72)
  have hlt := h.lt
  have HO : Hid (C.ROnly wr ((wr.alloc (.cells #[.int .i64 0, .slice none 0 0, .int .i64 0] 72)).alloc (.cells #[.int .i64 0, .slice none 0 0, .int .i64 0] 72)) r) := C.ROnly.ofBelow hb0
  have HC : Hid (C.RInv ((wr.alloc (.cells #[.int .i64 0, .slice none 0 0, .int .i64 0] 72)).alloc (.cells #[.int .i64 0, .slice none 0 0, .int .i64 0] 72)) r ao N cap zs pos err) := h.later hb0
  have HH : Hid (C.RInv wr r ao N cap zs pos err) := h
  have HG : Hid (∀ g, ao = some ⟨g, 0, none⟩ → g < wr.heap.size) := hg
  have AX : Hid (∀ w1 : World, C.ROnly ((wr.alloc (.cells #[.int .i64 0, .slice none 0 0, .int .i64 0] 72)).alloc (.cells #[.int .i64 0, .slice none 0 0, .int .i64 0] 72)) w1 r → w1.heap[wr.heap.size]? = some (.cells #[.int .i64 0, .slice none 0 0, .int .i64 0] 72 (0, 0)) ∧ w1.heap[wr.heap.size + 1]? = some (.cells #[.int .i64 0, .slice none 0 0, .int .i64 0] 72 (0, 0))) := fun w1 ho => ⟨(ho.block _ (lt_of_block hx0) (by omega)).trans hx0, (ho.block _ (lt_of_block hx1) (by omega)).trans hx1⟩
  clear h hg hz hb0 hx0 hx1 h1a h1b h1c
  go_enter Tryz.func158, Tryz.ntmps158
  go_wp2_with (first
    | (go_at_call 156; refine (xint HC.out a' p1 i1 HA.out).mono ?_; rintro e w1 ⟨rfl, h1', o1'⟩; have e1 := AX.out w1 o1'; have z0 : w1.cell? ⟨wr.heap.size + 1, 0, none⟩ = some (.int .i64 0) := (by rw [cellq_any e1.2]; rfl); have y0 : w1.frozen? ⟨wr.heap.size + 1, 0, none⟩ = false := (by simp [World.frozen?, e1.2]); have h1 : Hid (C.RInv (w1.setCell ⟨wr.heap.size + 1, 0, none⟩ (.int .i64 a')) r ao N cap zs p1 i1) := HH.out.patched h1' (own_set _ _ _ (by omega)); have o1 : Hid (C.ROnly wr (w1.setCell ⟨wr.heap.size + 1, 0, none⟩ (.int .i64 a')) r) := (HO.out.trans o1').patched (own_set _ _ _ (by omega)); have hz1 : wr.heap.size + 1 < w1.heap.size := lt_of_block e1.2; have E1 : Hid _ := e1; clear h1' o1' e1)
    | (go_at_call 197; refine (xl_sym h1.out (fun g eg => Nat.lt_of_lt_of_le (HG.out g eg) o1.out.size) HZZ.out l' p2 i2 HB.out).mono ?_; rintro e w2 ⟨ra, rc, rfl, s2', v2', h2', o2'⟩; have e2 := two_keep hlt 0 (.int .i64 a') E1.out o2'; clear z0 y0; have z1 : w2.cell? ⟨wr.heap.size + 1, 1, none⟩ = some (.slice none 0 0) := (by rw [cellq_any e2.2]; rfl); have y1 : w2.frozen? ⟨wr.heap.size + 1, 1, none⟩ = false := (by simp [World.frozen?, e2.2]); have SZ : Hid (wr.heap.size + 1 < (w1.setCell ⟨wr.heap.size + 1, 0, none⟩ (.int .i64 a')).heap.size) := lt_of_block (heap_set E1.out.2 _ _); have V2 : Hid (∀ k, (Value.slice ra l'.length rc).ownBlock = some k → wr.heap.size + 1 < k) := (fun k hk => Nat.lt_of_lt_of_le SZ.out (v2' k hk)); have h2 : Hid (C.RInv (w2.setCell ⟨wr.heap.size + 1, 1, none⟩ (.slice ra l'.length rc)) r ao N cap zs p2 i2) := HH.out.patched h2' (own_set _ _ _ (by omega)); have o2 : Hid (C.ROnly wr (w2.setCell ⟨wr.heap.size + 1, 1, none⟩ (.slice ra l'.length rc)) r) := (o1.out.trans o2').patched (own_set _ _ _ (by omega)); have s2 : Hid (SY (w2.setCell ⟨wr.heap.size + 1, 1, none⟩ (.slice ra l'.length rc)) (.slice ra l'.length rc) l') := (SY.kept s2' fun k hk => Below.heap_setCell _ _ _ _ (show k ≠ wr.heap.size + 1 by have := V2.out k hk; omega)); clear hz1; have hz1 : wr.heap.size + 1 < w2.heap.size := lt_of_block e2.2; have E2 : Hid _ := e2; clear h2' o2' s2' v2' e2)
    | (go_at_call 199; refine (xsg h2.out c' p3 i3 HCC.out).mono ?_; rintro e w3 ⟨rfl, h3', o3'⟩; have e3 := two_keep hlt 1 (.slice ra l'.length rc) E2.out o3'; clear z1 y1; have z0 : w3.cell? ⟨wr.heap.size + 1, 0, none⟩ = some (.int .i64 a') := (by rw [cellq_any e3.2]; rfl); have z1 : w3.cell? ⟨wr.heap.size + 1, 1, none⟩ = some (.slice ra l'.length rc) := (by rw [cellq_any e3.2]; rfl); have z2 : w3.cell? ⟨wr.heap.size + 1, 2, none⟩ = some (.int .i64 0) := (by rw [cellq_any e3.2]; rfl); have y2 : w3.frozen? ⟨wr.heap.size + 1, 2, none⟩ = false := (by simp [World.frozen?, e3.2]); have x0 : w3.cell? ⟨wr.heap.size, 0, none⟩ = some (.int .i64 0) := (by rw [cellq_any e3.1]; rfl); have x1 : w3.cell? ⟨wr.heap.size, 1, none⟩ = some (.slice none 0 0) := (by rw [cellq_any e3.1]; rfl); have x2 : w3.cell? ⟨wr.heap.size, 2, none⟩ = some (.int .i64 0) := (by rw [cellq_any e3.1]; rfl); have y3 : w3.frozen? ⟨wr.heap.size, 0, none⟩ = false := (by simp [World.frozen?, e3.1]); have y4 : w3.frozen? ⟨wr.heap.size, 1, none⟩ = false := (by simp [World.frozen?, e3.1]); have y5 : w3.frozen? ⟨wr.heap.size, 2, none⟩ = false := (by simp [World.frozen?, e3.1]); have h3 : Hid _ := h3'; have o3 : Hid (C.ROnly wr w3 r) := o2.out.trans o3'; have s3 : Hid (SY w3 (.slice ra l'.length rc) l') := (SY.kept s2.out fun k hk => o3'.block k (s2.out.lt k hk) (by have := V2.out k hk; omega)); clear hz1; have hz1 : wr.heap.size + 1 < w3.heap.size := lt_of_block e3.2; have hz2 : wr.heap.size < w3.heap.size := lt_of_block e3.1; clear h3' o3' e3))
  have hb9 : Below wr.heap.size w3 ((((w3.setCell ⟨wr.heap.size + 1, 2, none⟩ (.int .i64 c')).setCell ⟨wr.heap.size, 0, none⟩ (.int .i64 a')).setCell ⟨wr.heap.size, 1, none⟩ (.slice ra l'.length rc)).setCell ⟨wr.heap.size, 2, none⟩ (.int .i64 c')) :=
    (((own_set _ _ _ (by omega)).trans (own_set _ _ _ (by omega))).trans (own_set _ _ _ (by omega))).trans (own_set _ _ _ (by omega))
  refine bodyPost_ret (v := .agg #[.int .i64 a', .slice ra l'.length rc, .int .i64 c']) (by simp [results, Tryz.results158, go_sem, x0, x1, x2]) rfl ?_
  refine ⟨ra, rc, rfl, ?_, fun k hk' => (by have := V2.out k hk'; omega), HH.out.patched h3.out hb9, o3.out.patched hb9⟩
  exact SY.kept s3.out fun k hk' => by
    have := V2.out k hk'
    rw [Below.heap_setCell _ _ _ _ (show k ≠ wr.heap.size by omega), Below.heap_setCell _ _ _ _ (show k ≠ wr.heap.size by omega), Below.heap_setCell _ _ _ _ (show k ≠ wr.heap.size by omega), Below.heap_setCell _ _ _ _ (show k ≠ wr.heap.size + 1 by omega)]
end Go.Proofs.YtmkakdfdfdcncaaGreatDoor
