import Derived.Test.YtfckmbdcfeljiaaDoorTake
import Derived.Test.YtfckmbdcfeljiaaDoorWText
namespace Go.Proofs.YtfckmbdcfeljiaaDoor
set_option linter.unusedVariables false
open Go.RowKit

theorem rint_any {w : World} {r : Nat} {ao : Option Addr} {N cap : Nat} {xs : List Int} {pos : Nat} {err : Int} (most : Int) (h : RInv w r ao N cap xs pos err) (hm : 0 ≤ most) (hm1 : most ≤ 9223372036854775807) (n : Int) (p : Nat) (e : Int) (ht : takeS xs pos err most = (n, p, e)) (hn0 : 0 ≤ n) (hn1 : n ≤ 9223372036854775807) :
    Calls Tryd.prog 58 #[.pointer (some ⟨r, 0, none⟩), .int .i64 most] w fun x w' => x = .returned (.int .i64 n) ∧ RInv w' r ao N cap xs p e ∧ ROnly w w' r := by
  have HT : Hid _ := ht
  clear ht
  go_enter Tryd.func58, Tryd.ntmps58
  go_wp2_with (go_at_call 51; refine (take_any most h n p e HT.out).mono ?_; rintro e2 w2 ⟨rfl, hR2, hO2⟩)
  go_ret
  exact ⟨rfl, hR2, hO2⟩
def unfoldS (n : Int) : Int := if n % 2 = 1 then -(n / 2) - 1 else n / 2
theorem unfold_any (n : Int) (w : World) (h0 : 0 ≤ n) (h1 : n ≤ 18446744073709551615) :
    Calls Tryd.prog 81 #[.int .u64 n] w fun e w' => e = .returned (.int .i64 (unfoldS n)) ∧ w = w' := by
  by_cases hn : n % 2 = 1
  · have FS : Hid (bits .xor .i64 (-1) (n / 2) = unfoldS n) := by
      show _ = _
      rw [unfoldS, if_pos hn, xor_ones _ (by omega) (by omega)]
    have hb : (n % 2 == 1) = true := by simp [hn]
    clear hn
    go_enter Tryd.func81, Tryd.ntmps81
    go_wp2
    go_ret
    exact ⟨by rw [← FS.out]; rfl, rfl⟩
  · have FS : Hid (n / 2 = unfoldS n) := by show _ = _; rw [unfoldS, if_neg hn]
    have hb : (n % 2 == 1) = false := by simp [hn]
    clear hn
    go_enter Tryd.func81, Tryd.ntmps81
    go_wp2
    go_ret
    exact ⟨by rw [← FS.out]; rfl, rfl⟩
theorem unfold_fold (n : Int) : unfoldS (foldS n) = n := by
  unfold unfoldS foldS
  by_cases h : n < 0
  · rw [if_pos h, if_pos (by omega)]; omega
  · rw [if_neg h, if_neg (by omega)]; omega
theorem rsigned_any {w : World} {r : Nat} {ao : Option Addr} {N cap : Nat} {xs : List Int} {pos : Nat} {err : Int} (most : Int) (h : RInv w r ao N cap xs pos err) (hm : 0 ≤ most) (hm1 : most ≤ 9223372036854775807) (n : Int) (p : Nat) (e : Int) (ht : takeS xs pos err (foldS most) = (n, p, e)) (hn0 : 0 ≤ n) (hn1 : n ≤ 18446744073709551615) :
    Calls Tryd.prog 59 #[.pointer (some ⟨r, 0, none⟩), .int .i64 most] w fun x w' => x = .returned (.int .i64 (unfoldS n)) ∧ RInv w' r ao N cap xs p e ∧ ROnly w w' r := by
  have HT : Hid _ := ht
  have hm0 : -9223372036854775808 ≤ most := by omega
  clear ht
  go_enter Tryd.func59, Tryd.ntmps59
  go_wp2_with (first
    | (go_at_call 79; refine (fold_any most w hm0 hm1).mono ?_; rintro e2 w2 ⟨rfl, rfl⟩)
    | (go_at_call 51; refine (take_any (foldS most) h n p e HT.out).mono ?_; rintro e2 w2 ⟨rfl, hR2, hO2⟩)
    | (go_at_call 81; refine (unfold_any n w2 hn0 hn1).mono ?_; rintro e3 w3 ⟨rfl, rfl⟩))
  go_ret
  exact ⟨rfl, hR2, hO2⟩

/-- 'data[from:at]'. -/
theorem slice_mid (g N cap lo n : Nat) (h1 : lo + n ≤ N) (h2 : N ≤ cap) :
    ∃ ad c', (∀ w, (Instr.slice 22 (.slice (some ⟨g, 0, none⟩) N cap) (some (.int .i64 lo)) (some (.int .i64 ((lo : Int) + n))) none).run Tryd.prog w = .ok (.slice (some ad) n c') w) ∧ ∀ w xs, RowAt w (some ⟨g, 0, none⟩) xs → xs.length = N → RowAt w (some ad) ((xs.drop lo).take n) := by
  obtain ⟨i0, hi, _, hz1, _⟩ := info_parts info5
  have hu : Tryd.prog.underlying 22 = some (.slice (Tryd.prog.elem 22)) := by kernel_rfl
  have he : Tryd.prog.elem 22 = 5 := by kernel_rfl
  have hrun : ∀ w : World, (Instr.slice 22 (.slice (some ⟨g, 0, none⟩) N cap) (some (.int .i64 lo)) (some (.int .i64 ((lo : Int) + n))) none).run Tryd.prog w = .ok (sliced (some ⟨g, 0, none⟩) lo (lo + n) cap 1) w := by
    intro w
    have := run_slice_lh (P := Tryd.prog) (w := w) 22 (some ⟨g, 0, none⟩) N cap hu .i64 .i64 lo ((lo : Int) + n) (by omega) (by omega) (by omega)
    rw [this, he]
    have e1 : (lo : Int).toNat = lo := by omega
    have e2 : ((lo : Int) + (n : Int)).toNat = lo + n := by omega
    rw [e1, e2]
    simp [sizeOf, typeInfo, hi, hz1]
  by_cases hcp : cap = lo
  · refine ⟨⟨g, 0, none⟩, cap - lo, fun w => by rw [hrun w]; simp [sliced, hcp], fun w xs hr hx => ?_⟩
    obtain rfl : n = 0 := by omega
    simpa using RowAt.nil w (some ⟨g, 0, none⟩)
  · refine ⟨⟨g, 0 + lo, none⟩, cap - lo, fun w => by rw [hrun w]; simp [sliced, hcp, add_none], fun w xs hr hx => ?_⟩
    exact (hr.drop lo).take n
def toStr (zs : List Int) : ByteArray := ⟨(zs.map fun x => UInt8.ofNat x.toNat).toArray⟩
theorem toStr_bytes (zs : List Int) (hb : isBytes zs) : strBytes (toStr zs) = zs := by
  simp only [strBytes, toStr, List.map_map, Function.comp_def]
  conv => rhs; rw [← List.map_id zs]
  apply List.map_congr_left
  intro x hx
  have := hb x hx
  simp
  omega
theorem conv_str (w : World) (ad : Addr) (c : Nat) (zs : List Int) (hr : RowAt w (some ad) zs) : (convert 22 9 (.slice (some ad) zs.length c)).run Tryd.prog w = .ok (.string (toStr zs)) w := by
  have := run_convert_bytes_back (P := Tryd.prog) w 22 9 5 ad c (zs.map fun x => UInt8.ofNat x.toNat) Tryd.underlying22 Tryd.underlying5 Tryd.underlying9 (fun j hj => by
    have hj' : j < zs.length := by simpa using hj
    have hn := hr.news j (.int .u8 zs[j]) (by simp [hj'])
    rw [hn]
    have hbj := hr.1 zs[j] (List.getElem_mem hj')
    simp
    omega)
  simpa [toStr] using this

set_option maxRecDepth 100000 in
set_option maxHeartbeats 400000 in
theorem rtext_ok {w : World} {r : Nat} {ao : Option Addr} {N cap : Nat} {xs : List Int} {pos : Nat} (most : Int) (h : RInv w r ao N cap xs pos 0) (hm0 : -9223372036854775808 ≤ most) (hm1 : most ≤ 9223372036854775807) (n s : Nat) (hc : countS xs pos 1 most = ((n : Int), (s : Int), 0)) :
    Calls Tryd.prog 61 #[.pointer (some ⟨r, 0, none⟩), .int .i64 most] w fun x w' => ∃ str : ByteArray, x = .returned (.string str) ∧ strBytes str = (xs.drop (pos + s)).take n ∧ RInv w' r ao N cap xs (pos + s + n) 0 ∧ ROnly w w' r := by
  obtain ⟨_, f2⟩ := countS_facts xs h.row.1 pos h.pos 1 most n s 0 hc
  obtain ⟨g0, g1, g2, g3, g4, g5, g6, g7⟩ := f2 rfl
  have HC : Hid _ := hc
  have hs0 : ((s : Int) == 0) = false := by simp; omega
  have hspos : 0 < s := by omega
  have hq : pos + s + n ≤ xs.length := by simp at g6; omega
  have hl1 : (1 : Int) ≤ 9223372036854775807 := by decide
  have hps := h.pos
  have hlm := h.lim
  have hrl := h.lt
  have hN := h.len
  have hcp := h.cap
  have hqN : pos + s + n ≤ N := by omega
  have hqC : pos + s + n ≤ cap := by omega
  have hNl : N ≤ 140737488355328 := by omega
  clear hc f2 g0 g1 g2 g3 g5 g6 g7 hN hcp
  go_enter Tryd.func61, Tryd.ntmps61
  go_wp2_with (go_at_call 82; refine (pcount_eq 1 most h hm0 hm1 hl1 n s 0 HC.out).mono ?_; rintro e w2 ⟨rfl, hR2, hO2⟩; have hR3 := hR2.later (below_alloc w2 (.cells #[.int .u64 n, .int .i64 s] 152)); have hr2 := hR2.lt; have c2 := hR3.c2; have f2 := hR3.f2)
  go_quiet (fail)
  go_wp2
  obtain ⟨g, hao⟩ : ∃ g, ao = some ⟨g, 0, none⟩ := by
    rcases h.shape with e | e
    · obtain ⟨b, off, he, _⟩ := h.row.2 (fun e' => by subst e'; simp at hq; omega)
      rw [e] at he; cases he
    · exact e
  subst hao
  have hx4 := (hR3.drewN nq).setPos (pos + s + n) hq
  rw [Int.natCast_add, Int.natCast_add] at hx4
  have hO4 := (hO2.trans (ROnly.ofBelow (below_drewN (below_alloc w2 (.cells #[.int .u64 n, .int .i64 s] 152)) nq))).trans (ROnly.set _ r 2 (.int .i64 ((pos : Int) + s + n)))
  generalize (((w2.alloc (.cells #[.int .u64 n, .int .i64 s] 152)).drewN nq).setCell ⟨r, 2, none⟩ (.int .i64 ((pos : Int) + s + n))) = W at *
  obtain ⟨ad, c', hsl, hrow⟩ := slice_mid g N cap (pos + s) n (by have := h.len; omega) (by have := h.len; have := h.cap; omega)
  rw [Int.natCast_add] at hsl
  have hrw := fun m => hrow (W.drewN m) xs (hx4.drewN m).row hx4.len.symm
  have hzl : ((xs.drop (pos + s)).take n).length = n := by simp; omega
  have hcv := fun m => conv_str (W.drewN m) ad c' _ (hrw m)
  rw [hzl] at hcv
  have k1 := hx4.c1
  have k2 := hx4.c2
  have FB : Hid _ := toStr_bytes _ (hrw 0).1
  generalize toStr ((xs.drop (pos + s)).take n) = str at *
  clear hrow hrw hzl hR3 c2 f2 hR2 hO2
  go_quiet (fail)
  go_wp2
  go_ret
  exact ⟨str, rfl, FB.out, hx4.drewN _, hO4.trans (ROnly.ofBelow (below_drewN (Below.refl _ _) _))⟩
end Go.Proofs.YtfckmbdcfeljiaaDoor
