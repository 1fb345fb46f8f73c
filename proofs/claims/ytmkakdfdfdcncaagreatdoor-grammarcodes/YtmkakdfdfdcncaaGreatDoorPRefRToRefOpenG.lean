import Derived.Test.YtmkakdfdfdcncaaGreatDoorPRefWToRefSeal
import Derived.Test.YtmkakdfdfdcncaaGreatDoorPCountToBack0
import Derived.Test.YtmkakdfdfdcncaaGreatDoorPCheckHeadToOpen
import Derived.Test.YtmkakdfdfdcncaaGreatDoorPReaderToPeek
import Derived.Test.YtmkakdfdfdcncaaGreatDoorPSameToSums0
namespace Go.Proofs.YtmkakdfdfdcncaaGreatDoor.C
set_option linter.unusedVariables false
set_option maxRecDepth 100000
set_option maxHeartbeats 16000000
open Go.RowKit
def spotS (pos : Nat) (err : Int) : Int := if err = 0 then 0 else pos
structure QInv (w : World) (q : Nat) (ao : Option Addr) (cap : Nat) (xs : List Int) (pos : Nat) (err : Int) : Prop where
 hq : w.heap[q]? = some (.cells #[.slice ao xs.length cap, .int .i64 pos, .int .i64 err, .int .i64 (spotS pos err)] 153 (0, 0))
 row : RowAt w ao xs
 pos_ : pos <= xs.length
 lim : xs.length <= 140737488355328
 far : ∀ b off, ao = some ⟨b, off, none⟩ -> xs ≠ [] -> b ≠ q
section
variable {w : World} {q : Nat} {ao : Option Addr} {cap : Nat} {xs : List Int} {pos : Nat} {err : Int}
theorem QInv.c0 (h : QInv w q ao cap xs pos err) : w.cell? ⟨q, 0, none⟩ = some (.slice ao xs.length cap) := by simp [World.cell?, h.hq]
theorem QInv.c1 (h : QInv w q ao cap xs pos err) : w.cell? ⟨q, 1, none⟩ = some (.int .i64 pos) := by simp [World.cell?, h.hq]
theorem QInv.c2 (h : QInv w q ao cap xs pos err) : w.cell? ⟨q, 2, none⟩ = some (.int .i64 err) := by simp [World.cell?, h.hq]
theorem QInv.c3 (h : QInv w q ao cap xs pos err) : w.cell? ⟨q, 3, none⟩ = some (.int .i64 (spotS pos err)) := by simp [World.cell?, h.hq]
theorem QInv.free (h : QInv w q ao cap xs pos err) (j : Nat) : w.frozen? ⟨q, j, none⟩ = false := by simp [World.frozen?, h.hq]
theorem QInv.rowOnly (h : QInv w q ao cap xs pos err) {w' : World} (hb : ∀ k, k < w.heap.size -> k ≠ q -> w'.heap[k]? = w.heap[k]?) : RowAt w' ao xs := by
 refine ⟨h.row.1, fun hne => ?_⟩
 obtain ⟨b, off, he, hc⟩ := h.row.2 hne
 refine ⟨b, off, he, fun i hi => ?_⟩
 have := hc i hi
 rw [<- this]
 exact World.cell?_of_block (a := ⟨b, off + i, none⟩) (hb b (World.block_lt_of_cell? w _ this) (h.far b off he hne))
theorem QInv.later (h : QInv w q ao cap xs pos err) {w' : World} (hb : Below w.heap.size w w') : QInv w' q ao cap xs pos err :=
 ⟨(hb.block q (lt_of_block h.hq)).trans h.hq, h.row.later hb, h.pos_, h.lim, h.far⟩
theorem QInv.failed (h : QInv w q ao cap xs pos 0) (e : Int) (he : e ≠ 0) : QInv ((w.setCell ⟨q, 2, none⟩ (.int .i64 e)).setCell ⟨q, 3, none⟩ (.int .i64 pos)) q ao cap xs pos e := by
 have b1 := heap_set h.hq 2 (.int .i64 e)
 refine ⟨?_, h.rowOnly fun k _ hk => by rw [Below.heap_setCell _ _ _ _ hk, Below.heap_setCell _ _ _ _ hk], h.pos_, h.lim, h.far⟩
 rw [heap_set b1 3 (.int .i64 pos)]
 simp [spotS, he]
theorem QInv.moved (h : QInv w q ao cap xs pos err) (p : Nat) (hp : p <= xs.length) (he : err ≠ 0 -> p = pos) : QInv (w.setCell ⟨q, 1, none⟩ (.int .i64 p)) q ao cap xs p err := by
 refine ⟨?_, h.rowOnly fun k _ hk => by rw [Below.heap_setCell _ _ _ _ hk], hp, h.lim, h.far⟩
 rw [heap_set h.hq 1 (.int .i64 p)]
 by_cases z : err = 0
 ·simp [spotS, z]
 ·simp [spotS, z, he z]
theorem qfail_ok (h : QInv w q ao cap xs pos 0) (e : Int) (he : e ≠ 0) : Calls Tryz.prog 203 #[.pointer (some ⟨q, 0, none⟩), .int .i64 e] w fun x w' => x = .returned (.tuple #[]) /\ QInv w' q ao cap xs pos e /\ ROnly w w' q := by
 have c1 := h.c1
 have c2 := h.c2
 have c3 := h.c3
 have f2 := h.free 2
 have f3 := h.free 3
 have HF : Hid _ := h.failed e he
 go_enter Tryz.func203, Tryz.ntmps203
 go_wp2
 go_end0
 exact ⟨rfl, HF.out, (ROnly.set _ _ _ _).trans (ROnly.set _ _ _ _)⟩
end
theorem refnum_q (ao : Option Addr) (N cap at' : Nat) (xs : List Int) (w : World) (hN : N = xs.length) (hl : xs.length <= 140737488355328) (hat : at' <= xs.length) (hr : RowAt w ao xs) (n s er : Int) (hp : parse (xs.drop at') = (n, s, er)) :
  Calls Tryz.prog 162 #[.slice ao N cap, .int .i64 at'] w fun e w' => e = .returned (.tuple #[.int .u64 n, .int .i64 (at' + s), .int .i64 er]) /\ w' = w :=
 (refnum_any ao N cap at' xs w hN hl hat hr n s er hp).mono fun e w' h => ⟨h.1, h.2.symm⟩
theorem qnumber0 {w : World} {q : Nat} {ao : Option Addr} {cap : Nat} {xs : List Int} {pos : Nat} {err : Int} (most : Int) (h : QInv w q ao cap xs pos err) (n : Int) (p : Nat) (e : Int) (ht : takeS xs pos err most = (n, p, e)) :
  Calls Tryz.prog 204 #[.pointer (some ⟨q, 0, none⟩), .int .u64 most] w fun x w' => x = .returned (.tuple #[.int .u64 n, .int .i64 p]) /\ QInv w' q ao cap xs pos e /\ ROnly w w' q := by
 have c0 := h.c0
 have c1 := h.c1
 have c2 := h.c2
 rw [takeS] at ht
 by_cases he : err = 0
 ·subst he
  rw [if_neg (by simp)] at ht
  obtain ⟨n', s, ep, hp⟩ : ∃ n s e, parse (xs.drop pos) = (n, s, e) := ⟨_, _, _, rfl⟩
  obtain ⟨hpe, hpf⟩ := parse_facts (xs.drop pos) (isBytes_drop h.row.1 pos) n' s ep hp
  rw [peekS, hp] at ht
  simp only at ht
  have HP : Hid _ := hp
  clear hp
  have HLM : Hid (xs.length <= 140737488355328) := h.lim
  have HPS : Hid (pos <= xs.length) := h.pos_
  have HR : Hid (∀ n, RowAt (w.drewN n) ao xs) := fun n => h.row.later (below_drewN (Below.refl _ _) n)
  have HD : Hid (∀ n, QInv (w.drewN n) q ao cap xs pos 0) := fun n => h.later (below_drewN (Below.refl _ _) n)
  by_cases hz : ep = 0
  ·subst hz
   obtain ⟨hs1, hs2, hs3, hn1, hn2⟩ := hpf rfl
   simp only [List.length_drop] at hs3
   have hpos := h.pos_
   have hlim := h.lim
   by_cases hbig : most < n'
   ·simp [hbig] at ht
    obtain ⟨rfl, rfl, rfl⟩ := ht
    have HNE : Hid ((4 : Int) ≠ 0) := by show _ ≠ _; decide
    clear hpf hpe h
    go_enter Tryz.func204, Tryz.ntmps204
    go_wp2
    go_quiet ((go_at_call 162; exact Calls.quiet_of_same (refnum_q ao xs.length cap pos xs _ rfl HLM.out HPS.out (HR.out _) n' s 0 HP.out)))
    go_wp2_with (go_at_call 203; refine (qfail_ok (HD.out _) 4 HNE.out).mono ?_; rintro x w4 ⟨rfl, hq4, ho4⟩; have k1 := hq4.c1; have k2 := hq4.c2)
    go_wp2
    go_quiet (fail)
    go_wp2
    go_ret2
    exact ⟨rfl, hq4.later (below_drewN (Below.refl _ _) _), ((ROnly.ofBelow (below_drewN (Below.refl _ _) _)).trans ho4).trans (ROnly.ofBelow (below_drewN (Below.refl _ _) _))⟩
   ·simp [hbig] at ht
    obtain ⟨rfl, rfl, rfl⟩ := ht
    obtain ⟨s, rfl⟩ := Int.eq_ofNat_of_zero_le (show 0 <= s by omega)
    clear hpf hpe h
    go_enter Tryz.func204, Tryz.ntmps204
    go_wp2
    go_quiet ((go_at_call 162; exact Calls.quiet_of_same (refnum_q ao xs.length cap pos xs _ rfl HLM.out HPS.out (HR.out _) n' (s : Int) 0 HP.out)))
    go_wp2
    go_ret2
    exact ⟨by simp, HD.out _, ROnly.ofBelow (below_drewN (Below.refl _ _) _)⟩
  ·simp [hz] at ht
   obtain ⟨rfl, rfl, rfl⟩ := ht
   have HNE : Hid (ep ≠ 0) := hz
   have hzb : (ep != 0) = true := by simpa using hz
   have hzb' : (ep == 0) = false := by simpa using hz
   clear hpf hpe h hz
   go_enter Tryz.func204, Tryz.ntmps204
   go_wp2
   go_quiet ((go_at_call 162; exact Calls.quiet_of_same (refnum_q ao xs.length cap pos xs _ rfl HLM.out HPS.out (HR.out _) n' s ep HP.out)))
   go_wp2_with (go_at_call 203; refine (qfail_ok (HD.out _) ep HNE.out).mono ?_; rintro x w4 ⟨rfl, hq4, ho4⟩; have k1 := hq4.c1; have k2 := hq4.c2)
   go_wp2
   go_quiet (fail)
   go_wp2
   go_ret2
   exact ⟨rfl, hq4.later (below_drewN (Below.refl _ _) _), ((ROnly.ofBelow (below_drewN (Below.refl _ _) _)).trans ho4).trans (ROnly.ofBelow (below_drewN (Below.refl _ _) _))⟩
 ·rw [if_pos he] at ht
  simp at ht
  obtain ⟨rfl, rfl, rfl⟩ := ht
  have hzb : (err != 0) = true := by simpa using he
  go_enter Tryz.func204, Tryz.ntmps204
  go_wp2
  go_quiet (fail)
  go_wp2
  go_ret2
  exact ⟨rfl, h.later (below_drewN (Below.refl _ _) _), ROnly.ofBelow (below_drewN (Below.refl _ _) _)⟩
theorem takeS_pos (xs : List Int) (hb : isBytes xs) (pos : Nat) (hpos : pos <= xs.length) (err most n e : Int) (p : Nat) (h : takeS xs pos err most = (n, p, e)) : p <= xs.length /\ (e ≠ 0 -> p = pos) := by
 rw [takeS] at h
 by_cases he : err ≠ 0
 ·rw [if_pos he] at h; simp at h; omega
 ·rw [if_neg he] at h
  obtain ⟨a, b, c, hk⟩ : ∃ a b c, peekS xs pos most = (a, b, c) := ⟨_, _, _, rfl⟩
  have hf := peekS_facts xs hb pos hpos most a b c hk
  rw [hk] at h
  simp only at h
  by_cases hc : c ≠ 0
  ·rw [if_pos hc] at h; simp at h; omega
  ·rw [if_neg hc] at h; simp at h; have := hf.2 (Classical.not_not.1 hc); omega
section
variable {w : World} {q : Nat} {ao : Option Addr} {cap : Nat} {xs : List Int} {pos : Nat} {err : Int}
def QEnds (q : Nat) (ao : Option Addr) (cap : Nat) (xs : List Int) (v : Value) (p : Nat) (e : Int) (w : World) (x : Ending) (w' : World) : Prop :=
 x = .returned v /\ QInv w' q ao cap xs p e /\ ROnly w w' q
theorem qint (most : Int) (h : QInv w q ao cap xs pos err) (hm : 0 <= most) (hm1 : most <= 9223372036854775807) (n : Int) (p : Nat) (e : Int) (ht : takeS xs pos err most = (n, p, e)) (hn0 : 0 <= n) (hn1 : n <= 9223372036854775807) :
  Calls Tryz.prog 164 #[.pointer (some ⟨q, 0, none⟩), .int .i64 most] w (QEnds q ao cap xs (.int .i64 n) p e w) := by
 obtain ⟨tp1, tp2⟩ := takeS_pos xs h.row.1 pos h.pos_ err _ n e p ht
 have HT : Hid _ := ht
 have TP : Hid (e ≠ 0 -> p = pos) := tp2
 clear ht tp2
 go_enter Tryz.func164, Tryz.ntmps164
 go_wp2_with (go_at_call 204; refine (qnumber0 most h n p e HT.out).mono ?_; rintro x w2 ⟨rfl, hq2, ho2⟩; have k1 := hq2.c1; have f1 := hq2.free 1)
 go_ret
 exact ⟨rfl, hq2.moved p tp1 TP.out, ho2.trans (ROnly.set _ _ _ _)⟩
theorem qend (h : QInv w q ao cap xs pos err) (e a : Int) (he : endS xs pos err = (e, a)) :
  Calls Tryz.prog 86 #[.pointer (some ⟨q, 0, none⟩)] w fun x w' => x = .returned (.tuple #[.int .i64 e, .int .i64 a]) /\ ∃ n, w' = w.drewN n := by
 have c0 := h.c0
 have c1 := h.c1
 have c2 := h.c2
 have c3 := h.c3
 have hp := h.pos_
 have hl := h.lim
 rw [endS] at he
 by_cases z : err = 0
 ·subst z
  rw [if_neg (by simp)] at he
  by_cases y : pos < xs.length
  ·rw [if_pos y] at he; simp at he; obtain ⟨rfl, rfl⟩ := he
   go_enter Tryz.func86, Tryz.ntmps86
   go_wp2
   first
    | (go_ret2; exact ⟨rfl, 0, rfl⟩)
    | (go_quiet (fail); go_wp2; first | (go_ret2; exact ⟨rfl, _, rfl⟩) | (go_quiet (fail); go_wp2; go_ret2; exact ⟨rfl, _, World.drewN_drewN _ _ _⟩))
  ·rw [if_neg y] at he; simp at he; obtain ⟨rfl, rfl⟩ := he
   go_enter Tryz.func86, Tryz.ntmps86
   go_wp2
   first
    | (go_ret2; exact ⟨rfl, 0, rfl⟩)
    | (go_quiet (fail); go_wp2; first | (go_ret2; exact ⟨rfl, _, rfl⟩) | (go_quiet (fail); go_wp2; go_ret2; exact ⟨rfl, _, World.drewN_drewN _ _ _⟩))
 ·rw [if_pos z] at he; simp at he; obtain ⟨rfl, rfl⟩ := he
  have hzb : (err != 0) = true := by simpa using z
  have hsp : spotS pos err = pos := by simp [spotS, z]
  rw [hsp] at c3
  go_enter Tryz.func86, Tryz.ntmps86
  go_wp2
  first
   | (go_ret2; exact ⟨rfl, 0, rfl⟩)
   | (go_quiet (fail); go_wp2; first | (go_ret2; exact ⟨rfl, _, rfl⟩) | (go_quiet (fail); go_wp2; go_ret2; exact ⟨rfl, _, World.drewN_drewN _ _ _⟩))
end
theorem takeS_cut (xs : List Int) (hb : isBytes xs) (pos : Nat) (hpos : pos <= xs.length) (err m n1 e1 : Int) (p1 : Nat) (hm : m <= 18446744073709551615) (h : takeS xs pos err 18446744073709551615 = (n1, p1, e1)) :
  (e1 ≠ 0 -> takeS xs pos err m = (0, pos, e1)) /\ (e1 = 0 -> 0 <= n1 /\ n1 <= 18446744073709551615 /\ takeS xs pos err m = if m < n1 then (0, pos, 4) else (n1, p1, 0)) := by
 unfold takeS at h ⊢
 by_cases he : err ≠ 0
 ·rw [if_pos he] at h ⊢
  simp at h
  obtain ⟨rfl, rfl, rfl⟩ := h
  exact ⟨fun _ => rfl, fun z => absurd z he⟩
 ·rw [if_neg he] at h ⊢
  obtain ⟨a, b, c, hk⟩ : ∃ a b c, parse (xs.drop pos) = (a, b, c) := ⟨_, _, _, rfl⟩
  obtain ⟨hc, hf⟩ := parse_facts (xs.drop pos) (isBytes_drop hb pos) a b c hk
  unfold peekS at h ⊢
  rw [hk] at h ⊢
  simp only at h ⊢
  by_cases z : c = 0
  ·subst z
   obtain ⟨_, _, _, f1, f2⟩ := hf rfl
   have g : ¬ (18446744073709551615 : Int) < a := by omega
   simp [g] at h
   obtain ⟨rfl, rfl, rfl⟩ := h
   refine ⟨fun q => absurd rfl q, fun _ => ⟨f1, by omega, ?_⟩⟩
   by_cases k : m < a <;> simp [k]
  ·simp [z] at h
   obtain ⟨rfl, rfl, rfl⟩ := h
   exact ⟨fun _ => by simp [z], fun q => absurd q z⟩
section
variable {w : World} {q : Nat} {ao : Option Addr} {cap : Nat} {xs : List Int} {pos : Nat} {err : Int}
theorem qsigned (most : Int) (h : QInv w q ao cap xs pos err) (hm : 0 <= most) (hm1 : most <= 9223372036854775807) (n : Int) (p : Nat) (e : Int) (ht : takeS xs pos err (foldS most) = (n, p, e)) :
  Calls Tryz.prog 167 #[.pointer (some ⟨q, 0, none⟩), .int .i64 most] w (QEnds q ao cap xs (.int .i64 (unfoldS n)) p e w) := by
 have hfm : foldS most = 2 * most := by simp [foldS]; omega
 rw [hfm] at ht
 obtain ⟨n1, p1, e1, h1⟩ : ∃ a b c, takeS xs pos err 18446744073709551615 = (a, b, c) := ⟨_, _, _, rfl⟩
 obtain ⟨u1, u2⟩ := takeS_cut xs h.row.1 pos h.pos_ err (2 * most) n1 e1 p1 (by omega) h1
 obtain ⟨tp1, tp2⟩ := takeS_pos xs h.row.1 pos h.pos_ err _ n1 e1 p1 h1
 have HT : Hid _ := h1
 clear h1 hfm
 by_cases z : e1 = 0
 ·subst z
  obtain ⟨g0, g1, g2⟩ := u2 rfl
  rw [g2] at ht
  clear u1 u2 g2
  by_cases k : 2 * most < n1
  ·rw [if_pos k] at ht; simp at ht; obtain ⟨rfl, rfl, rfl⟩ := ht
   have HNE : Hid ((4 : Int) ≠ 0) := by show _ ≠ _; decide
   go_enter Tryz.func167, Tryz.ntmps167
   go_wp2_with (first
    | (go_at_call 204; refine (qnumber0 18446744073709551615 h n1 p1 0 HT.out).mono ?_; rintro x w2 ⟨rfl, hq2, ho2⟩; have k2 := hq2.c2)
    | (go_at_call 203; refine (qfail_ok hq2 4 HNE.out).mono ?_; rintro x w3 ⟨rfl, hq3, ho3⟩))
   go_ret
   exact ⟨rfl, hq3, ho2.trans ho3⟩
  ·rw [if_neg k] at ht; simp at ht; obtain ⟨rfl, rfl, rfl⟩ := ht
   by_cases par : n1 % 2 = 1
   ·have pb : (n1 % 2 == 1) = true := by simp [par]
    have HU : Hid (unfoldS n1 = -(n1 / 2) - 1) := by show _ = _; simp [unfoldS, par]
    go_enter Tryz.func167, Tryz.ntmps167
    go_wp2_with (go_at_call 204; refine (qnumber0 18446744073709551615 h n1 p1 0 HT.out).mono ?_; rintro x w2 ⟨rfl, hq2, ho2⟩; have k2 := hq2.c2; have k1 := hq2.c1; have f1 := hq2.free 1)
    go_ret
    exact ⟨by rw [HU.out]; rfl, hq2.moved p1 tp1 (fun q => absurd rfl q), ho2.trans (ROnly.set _ _ _ _)⟩
   ·have pb : (n1 % 2 == 1) = false := by simp [par]
    have HU : Hid (unfoldS n1 = n1 / 2) := by show _ = _; simp [unfoldS, par]
    go_enter Tryz.func167, Tryz.ntmps167
    go_wp2_with (go_at_call 204; refine (qnumber0 18446744073709551615 h n1 p1 0 HT.out).mono ?_; rintro x w2 ⟨rfl, hq2, ho2⟩; have k2 := hq2.c2; have k1 := hq2.c1; have f1 := hq2.free 1)
    go_ret
    exact ⟨by rw [HU.out]; rfl, hq2.moved p1 tp1 (fun q => absurd rfl q), ho2.trans (ROnly.set _ _ _ _)⟩
 ·rw [u1 z] at ht; simp at ht; obtain ⟨rfl, rfl, rfl⟩ := ht
  have zb : (e1 != 0) = true := by simpa using z
  go_enter Tryz.func167, Tryz.ntmps167
  go_wp2_with (go_at_call 204; refine (qnumber0 18446744073709551615 h n1 p1 e1 HT.out).mono ?_; rintro x w2 ⟨rfl, hq2, ho2⟩; have k2 := hq2.c2)
  go_ret
  exact ⟨rfl, hq2, ho2⟩
end
section
variable {w : World} {q : Nat} {ao : Option Addr} {cap : Nat} {xs : List Int} {pos : Nat} {err : Int}
theorem qcount (least most : Int) (h : QInv w q ao cap xs pos 0) (hl0 : 1 <= least) (hl1 : least <= 9223372036854775807) (hm0 : 0 <= most) (hm1 : most <= 9223372036854775807) (n s e : Int) (hc : countS xs pos least most = (n, s, e)) :
  Calls Tryz.prog 165 #[.pointer (some ⟨q, 0, none⟩), .int .i64 least, .int .i64 most] w (QEnds q ao cap xs (.int .i64 n) (pos + s.toNat) e w) := by
 rw [countS, if_neg (by omega)] at hc
 obtain ⟨a, b, c, hk⟩ : ∃ a b c, peekS xs pos most = (a, b, c) := ⟨_, _, _, rfl⟩
 have hf := peekS_facts xs h.row.1 pos h.pos_ most a b c hk
 have ht : takeS xs pos 0 most = if c ≠ 0 then (0, pos, c) else (a, pos + b.toNat, 0) := by rw [takeS, if_neg (by simp), hk]
 rw [hk] at hc
 simp only at hc
 have hlim := h.lim
 have hpos := h.pos_
 by_cases z : c = 0
 ·subst z
  rw [if_neg (by simp)] at hc ht
  obtain ⟨g1, g2, g3, g4, g5, g6, g7⟩ := hf.2 rfl
  obtain ⟨b, rfl⟩ := Int.eq_ofNat_of_zero_le (show 0 <= b by omega)
  have HT : Hid _ := ht
  rw [show (xs.length : Int) - pos - b = xs.length - (pos + b) by omega] at hc
  have hq0 : 0 <= ((xs.length : Int) - (pos + b)) / least := Int.ediv_nonneg (by omega) (by omega)
  have hq1 : ((xs.length : Int) - (pos + b)) / least <= 140737488355328 := Int.le_trans (Int.ediv_le_self _ (by omega)) (by omega)
  clear hf g7 ht hk
  by_cases y : ((xs.length : Int) - (pos + b)) / least < a
  ·rw [if_pos y] at hc; simp at hc; obtain ⟨rfl, rfl, rfl⟩ := hc
   have HNE : Hid ((11 : Int) ≠ 0) := by show _ ≠ _; decide
   go_enter Tryz.func165, Tryz.ntmps165
   go_wp2_with (first
    | (go_at_call 204; refine (qnumber0 most h a (pos + b) 0 HT.out).mono ?_; rintro x w2 ⟨rfl, hq2, ho2⟩; have k0 := hq2.c0; have k1 := hq2.c1; have k2 := hq2.c2; have f1 := hq2.free 1)
    | (go_at_call 203; refine (qfail_ok hq2 11 HNE.out).mono ?_; rintro x w3 ⟨rfl, hq3, ho3⟩))
   go_ret
   exact ⟨rfl, by simpa using hq3, ho2.trans ho3⟩
  ·rw [if_neg y] at hc; simp at hc; obtain ⟨rfl, rfl, rfl⟩ := hc
   go_enter Tryz.func165, Tryz.ntmps165
   go_wp2_with (go_at_call 204; refine (qnumber0 most h a (pos + b) 0 HT.out).mono ?_; rintro x w2 ⟨rfl, hq2, ho2⟩; have k0 := hq2.c0; have k1 := hq2.c1; have k2 := hq2.c2; have f1 := hq2.free 1)
   go_ret
   exact ⟨rfl, hq2.moved (pos + b) (by omega) (fun q => absurd rfl q), ho2.trans (ROnly.set _ _ _ _)⟩
 ·rw [if_pos z] at hc ht
  simp at hc
  obtain ⟨rfl, rfl, rfl⟩ := hc
  have HT : Hid _ := ht
  have zb : (c != 0) = true := by simpa using z
  clear ht hf hk
  go_enter Tryz.func165, Tryz.ntmps165
  go_wp2_with (go_at_call 204; refine (qnumber0 most h 0 pos c HT.out).mono ?_; rintro x w2 ⟨rfl, hq2, ho2⟩; have k2 := hq2.c2)
  go_ret
  exact ⟨rfl, by simpa using hq2, ho2⟩
theorem qcount_no (least most : Int) (h : QInv w q ao cap xs pos err) (he : err ≠ 0) (hl0 : 1 <= least) (hm0 : 0 <= most) (hm1 : most <= 9223372036854775807) :
  Calls Tryz.prog 165 #[.pointer (some ⟨q, 0, none⟩), .int .i64 least, .int .i64 most] w (QEnds q ao cap xs (.int .i64 0) pos err w) := by
 have HT : Hid (takeS xs pos err most = (0, pos, err)) := by show _ = _; rw [takeS, if_pos he]
 have zb : (err != 0) = true := by simpa using he
 clear he
 go_enter Tryz.func165, Tryz.ntmps165
 go_wp2_with (go_at_call 204; refine (qnumber0 most h 0 pos err HT.out).mono ?_; rintro x w2 ⟨rfl, hq2, ho2⟩; have k2 := hq2.c2)
 go_ret
 exact ⟨rfl, hq2, ho2⟩
theorem qtext_no (most : Int) (h : QInv w q ao cap xs pos err) (he : err ≠ 0) (hm0 : 0 <= most) (hm1 : most <= 9223372036854775807) :
  Calls Tryz.prog 202 #[.pointer (some ⟨q, 0, none⟩), .int .i64 most] w (QEnds q ao cap xs (.string .empty) pos err w) := by
 have HT : Hid (takeS xs pos err most = (0, pos, err)) := by show _ = _; rw [takeS, if_pos he]
 have zb : (err != 0) = true := by simpa using he
 clear he
 go_enter Tryz.func202, Tryz.ntmps202
 go_wp2_with (go_at_call 204; refine (qnumber0 most h 0 pos err HT.out).mono ?_; rintro x w2 ⟨rfl, hq2, ho2⟩; have k2 := hq2.c2)
 go_ret
 exact ⟨rfl, hq2, ho2⟩
end
theorem wp_at {P : Program} {c : Code} {Q : Exit -> Act -> World -> Prop} {a : Act} {w : World} (I : World -> Prop) (h : I w) (k : ∀ w', I w' -> Code.wp P c Q a w') : Code.wp P c Q a w := k w h
theorem slice_at (g o N cap lo n : Nat) (h1 : lo + n <= N) (h2 : N <= cap) :
  ∃ ad c', (∀ w, (Instr.slice 54 (.slice (some ⟨g, o, none⟩) N cap) (some (.int .i64 lo)) (some (.int .i64 ((lo : Int) + n))) none).run Tryz.prog w = .ok (.slice (some ad) n c') w) /\ ∀ w xs, RowAt w (some ⟨g, o, none⟩) xs -> xs.length = N -> RowAt w (some ad) ((xs.drop lo).take n) := by
 obtain ⟨i0, hi, _, hz1, _⟩ := info_parts info5
 have hu : Tryz.prog.underlying 54 = some (.slice (Tryz.prog.elem 54)) := by kernel_rfl
 have he : Tryz.prog.elem 54 = 5 := by kernel_rfl
 have hrun : ∀ w : World, (Instr.slice 54 (.slice (some ⟨g, o, none⟩) N cap) (some (.int .i64 lo)) (some (.int .i64 ((lo : Int) + n))) none).run Tryz.prog w = .ok (sliced (some ⟨g, o, none⟩) lo (lo + n) cap 1) w := by
  intro w
  have := run_slice_lh (P := Tryz.prog) (w := w) 54 (some ⟨g, o, none⟩) N cap hu .i64 .i64 lo ((lo : Int) + n) (by omega) (by omega) (by omega)
  rw [this, he]
  have e1 : (lo : Int).toNat = lo := by omega
  have e2 : ((lo : Int) + (n : Int)).toNat = lo + n := by omega
  rw [e1, e2]
  simp [sizeOf, typeInfo, hi, hz1]
 by_cases hcp : cap = lo
 ·refine ⟨⟨g, o, none⟩, cap - lo, fun w => by rw [hrun w]; simp [sliced, hcp], fun w xs hr hx => ?_⟩
  obtain rfl : n = 0 := by omega
  simpa using RowAt.nil w (some ⟨g, o, none⟩)
 ·refine ⟨⟨g, o + lo, none⟩, cap - lo, fun w => by rw [hrun w]; simp [sliced, hcp, add_none], fun w xs hr hx => ?_⟩
  exact (hr.drop lo).take n
section
variable {w : World} {q : Nat} {ao : Option Addr} {cap : Nat} {xs : List Int} {pos : Nat} {err : Int}
theorem QInv.drewN (h : QInv w q ao cap xs pos err) (n : Nat) : QInv (w.drewN n) q ao cap xs pos err := h.later (below_drewN (Below.refl _ _) n)
theorem qtext_err (most : Int) (h : QInv w q ao cap xs pos 0) (hm0 : 0 <= most) (hm1 : most <= 9223372036854775807) (e : Int) (hne : e ≠ 0) (hc : countS xs pos 1 most = (0, 0, e)) :
  Calls Tryz.prog 202 #[.pointer (some ⟨q, 0, none⟩), .int .i64 most] w (QEnds q ao cap xs (.string .empty) pos e w) := by
 rw [countS, if_neg (by omega)] at hc
 obtain ⟨a, b, c, hk⟩ : ∃ a b c, peekS xs pos most = (a, b, c) := ⟨_, _, _, rfl⟩
 have hf := peekS_facts xs h.row.1 pos h.pos_ most a b c hk
 have ht : takeS xs pos 0 most = if c ≠ 0 then (0, pos, c) else (a, pos + b.toNat, 0) := by rw [takeS, if_neg (by simp), hk]
 rw [hk] at hc
 simp only at hc
 have hlim := h.lim
 have hpos := h.pos_
 by_cases z : c = 0
 ·subst z
  rw [if_neg (by simp)] at hc ht
  obtain ⟨g1, g2, g3, g4, g5, g6, g7⟩ := hf.2 rfl
  obtain ⟨b, rfl⟩ := Int.eq_ofNat_of_zero_le (show 0 <= b by omega)
  have HT : Hid _ := ht
  rw [show (xs.length : Int) - pos - b = xs.length - (pos + b) by omega, Int.ediv_one] at hc
  clear hf g7 ht hk
  by_cases y : (xs.length : Int) - (pos + b) < a
  ·rw [if_pos y] at hc; simp at hc; subst hc
   have HNE : Hid ((11 : Int) ≠ 0) := by show _ ≠ _; decide
   go_enter Tryz.func202, Tryz.ntmps202
   go_wp2_with (first
    | (go_at_call 204; refine (qnumber0 most h a (pos + b) 0 HT.out).mono ?_; rintro x w2 ⟨rfl, hq2, ho2⟩; have k0 := hq2.c0; have k1 := hq2.c1; have k2 := hq2.c2; have f1 := hq2.free 1)
    | (go_at_call 203; refine (qfail_ok hq2 11 HNE.out).mono ?_; rintro x w3 ⟨rfl, hq3, ho3⟩))
   go_ret
   exact ⟨rfl, hq3, ho2.trans ho3⟩
  ·rw [if_neg y] at hc; simp at hc; exact absurd hc.2.2.symm hne
 ·rw [if_pos z] at hc ht
  simp at hc
  subst hc
  have HT : Hid _ := ht
  have zb : (c != 0) = true := by simpa using z
  clear ht hf hk
  go_enter Tryz.func202, Tryz.ntmps202
  go_wp2_with (go_at_call 204; refine (qnumber0 most h 0 pos c HT.out).mono ?_; rintro x w2 ⟨rfl, hq2, ho2⟩; have k2 := hq2.c2)
  go_ret
  exact ⟨rfl, hq2, ho2⟩
theorem qtext_ok (most : Int) (h : QInv w q ao cap xs pos 0) (hcap : xs.length <= cap) (hm0 : 0 <= most) (hm1 : most <= 9223372036854775807) (n s : Nat) (hc : countS xs pos 1 most = ((n : Int), (s : Int), 0)) :
  Calls Tryz.prog 202 #[.pointer (some ⟨q, 0, none⟩), .int .i64 most] w (QEnds q ao cap xs (.string (toStr ((xs.drop (pos + s)).take n))) (pos + s + n) 0 w) := by
 obtain ⟨_, f2⟩ := countS_facts xs h.row.1 pos h.pos_ 1 most n s 0 hc
 obtain ⟨g0, g1, g2, g3, g4, g5, g6, g7⟩ := f2 rfl
 have hspos : 0 < s := by omega
 have hq : pos + s + n <= xs.length := by simp at g6; omega
 have hlim := h.lim
 have hpos := h.pos_
 have ht : takeS xs pos 0 most = ((n : Int), pos + s, 0) := by
  rw [countS, if_neg (by omega)] at hc
  obtain ⟨a, b, c, hk⟩ : ∃ a b c, peekS xs pos most = (a, b, c) := ⟨_, _, _, rfl⟩
  rw [hk] at hc
  rw [takeS, if_neg (by simp), hk]
  simp only at hc
  by_cases z : c = 0
  ·subst z
   rw [if_neg (by simp)] at hc
   rw [if_neg (by simp)]
   split at hc
   ·simp at hc
   ·simp at hc
    obtain ⟨rfl, rfl⟩ := hc
    simp
  ·rw [if_pos z] at hc; simp at hc; exact absurd hc.2.2 z
 have HT : Hid _ := ht
 obtain ⟨bb, off, hao, _⟩ := h.row.2 (fun e' => by subst e'; simp at hq; omega)
 subst hao
 have hle : ¬ ((xs.length : Int) - (pos + s) < n) := by omega
 have hnb : (n : Int) <= 140737488355328 := by omega
 clear f2 g0 g1 g2 g3 g4 g5 g6 g7 hc ht
 go_enter Tryz.func202, Tryz.ntmps202
 go_wp2_with (go_at_call 204; refine (qnumber0 most h n (pos + s) 0 HT.out).mono ?_; rintro x w2 ⟨rfl, hq2, ho2⟩; have k0 := hq2.c0; have k1 := hq2.c1; have k2 := hq2.c2; have f1 := hq2.free 1)
 have hx4 := hq2.moved (pos + s + n) hq (fun e => absurd rfl e)
 have hO4 := ho2.trans (ROnly.set w2 q 1 (.int .i64 ((pos + s + n : Nat) : Int)))
 refine wp_at (fun W => QInv W q (some ⟨bb, off, none⟩) cap xs (pos + s + n) 0 /\ ROnly w W q) ?_ ?_
 ·constructor
  ·simpa using hx4
  ·simpa using hO4
 clear hx4 hO4 hq2 ho2 k0 k1 k2 f1
 rintro W ⟨hW, hO⟩
 obtain ⟨ad, c', hsl, hrow⟩ := slice_at bb off xs.length cap (pos + s) n (by omega) hcap
 rw [Int.natCast_add] at hsl
 have hrw := fun m => hrow (W.drewN m) xs (hW.drewN m).row rfl
 have hzl : ((xs.drop (pos + s)).take n).length = n := by simp; omega
 have hcv := fun m => conv_str (W.drewN m) ad c' _ (hrw m)
 rw [hzl] at hcv
 have k0 := hW.c0
 have k1 := hW.c1
 rw [Int.natCast_add, Int.natCast_add] at k1
 generalize toStr ((xs.drop (pos + s)).take n) = str at *
 clear hrow hrw hzl
 go_quiet (fail)
 go_wp2
 go_ret
 exact ⟨rfl, hW.drewN _, hO.trans (ROnly.ofBelow (below_drewN (Below.refl _ _) _))⟩
end
theorem sumBytes_join (s : Int) (h0 : 0 <= s) (h1 : s <= 4294967295) (a b c d : Int) (ha : 0 <= a /\ a <= 255) (hb : 0 <= b /\ b <= 255) (hc : 0 <= c /\ c <= 255) (hd : 0 <= d /\ d <= 255) : joinSum [a, b, c, d] = s ↔ (a = s / 16777216 /\ b = s / 65536 % 256 /\ c = s / 256 % 256 /\ d = s % 256) := by
 simp only [joinSum, List.foldl_cons, List.foldl_nil]
 constructor
 ·intro h; omega
 ·rintro ⟨rfl, rfl, rfl, rfl⟩; omega
theorem wpList_own_append_n {ops : Array Oper} {rest : List Oper} {o : Oper} {a : Act} {Q : Exit -> Act -> World -> Prop} {w : World} (hgd : o.guard = none) (s x : Operand)
  (ho : o.op = .call { callee := .builtin .append, args := #[s, x], argTypes := #[54, 54] })
  (v : Value) (xs : List Int) (hs : a.eval s = v) (h : Own w v xs) (ao : Option Addr) (N c : Nat) (news : List Int) (hN : N = news.length) (hx : a.eval x = .slice ao N c) (hr : RowAt w ao news) (hc : ao = none -> c = 0) (hlen : xs.length + news.length <= 140737488355328)
  (hK : ∀ v' w', Own w' v' (xs ++ news) -> Grew w w' v v' -> wpList Tryz.prog ops Q rest (a.put o.dst v') w') : wpList Tryz.prog ops Q (o :: rest) a w := by
 subst hN
 exact wpList_own_append hgd s x ho v xs hs h ao c news hx hr hc hlen fun v' w' r1 r2 _ => hK v' w' r1 r2
theorem drop_four (xs : List Int) (t : Nat) (h : xs.length = t + 4) : xs.drop t = [xs.getD t 0, xs.getD (t + 1) 0, xs.getD (t + 2) 0, xs.getD (t + 3) 0] := by
 apply List.ext_getElem
 ·simp; omega
 ·intro i h1 h2
  simp at h2
  have hi : i = 0 ∨ i = 1 ∨ i = 2 ∨ i = 3 := by omega
  rcases hi with rfl | rfl | rfl | rfl <;> simp [List.getD, show t < xs.length by omega, show t + 1 < xs.length by omega, show t + 2 < xs.length by omega, show t + 3 < xs.length by omega]
theorem refopen_any (k : Int) (ao : Option Addr) (N cap : Nat) (xs : List Int) (w : World) (hN : N = xs.length) (hk0 : 0 <= k) (hk1 : k <= 255) (hl : xs.length <= 140737488355328) (hcap : xs.length <= cap) (hr : RowAt w ao xs) (hn : ao = none -> cap = 0) :
  Calls Tryz.prog 84 #[.int .u8 k, .slice ao N cap] w (OpenEnds k xs w) := by
 subst hN
 have HB := headBytes_bytes k hk0 hk1
 go_enter Tryz.func84, Tryz.ntmps84
 go_wp2
 have HW0 : Below w.heap.size w (w.alloc (.cells #[.int .u8 103, .int .u8 116, .int .u8 114, .int .u8 k] 5)) := below_alloc w _
 have HH0 : RowAt (w.alloc (.cells #[.int .u8 103, .int .u8 116, .int .u8 114, .int .u8 k] 5)) (some ⟨w.heap.size, 0, none⟩) (headBytes k) := rowAt_new w 5 (headBytes k) (0, 0) HB
 go_loopw [8] (fun i wr => ∃ j : Nat, j <= 4 /\ j <= xs.length /\ i = .int .i64 j /\ checkHead k xs = chk ((headBytes k).drop j) j (xs.drop j) /\ RowAt wr (some ⟨w.heap.size, 0, none⟩) (headBytes k) /\ Below w.heap.size w wr) (fun i _ => 4 - (intOf i).toNat)
 case atStart => exact ⟨0, by omega, by omega, rfl, rfl, HH0, HW0⟩
 case round =>
  obtain ⟨j, hj4, hjl, rfl, hp, hh, hb⟩ := hrel
  clear HH0 HW0
  have HP : Hid (checkHead k xs = chk ((headBytes k).drop j) j (xs.drop j)) := hp
  clear hp
  have hrr := hr.later hb
  by_cases hj : j < 4
  ·have HHD : Hid ((headBytes k).drop j = (headBytes k).getD j 0 :: (headBytes k).drop (j + 1)) := by
    match j, hj with
    | 0, _ => rfl
    | 1, _ => rfl
    | 2, _ => rfl
    | 3, _ => rfl
   by_cases hlt : j < xs.length
   ·obtain ⟨b, off, rfl, hc⟩ := hrr.2 (by intro h; subst h; simp at hlt)
    obtain ⟨b2, off2, he2, hc2⟩ := hh.2 (by simp [headBytes])
    cases he2
    have hck := hc j hlt
    have hck2 := hc2 j (by simpa [headBytes] using hj)
    rw [Nat.zero_add] at hck2
    have hbj := hr.1.at j
    have hhb := HB.at j
    have HD : Hid (xs.drop j = xs.getD j 0 :: xs.drop (j + 1)) := by
     show _ = _
     rw [List.drop_eq_getElem_cons hlt]; simp [List.getD, hlt]
    have HKH : Hid (RowAt wr (some ⟨w.heap.size, 0, none⟩) (headBytes k)) := hh
    clear hc hc2 hr hrr hh
    generalize (headBytes k).getD j 0 = h at *
    generalize xs.getD j 0 = c at *
    by_cases he : c = h
    ·have het : (c != h) = false := by simp [he]
     have HE : Hid (c = h) := he
     clear he
     go_wp2
     go_quiet (fail)
     go_wp2
     go_roundw
     case rel => exact ⟨j + 1, by omega, by omega, by go_num, by rw [HP.out, HHD.out, HD.out, chk, if_pos HE.out], HKH.out.later (below_drewN (Below.refl _ _) _), below_drewN hb _⟩
     case measure => simp [intOf]; omega
    ·have het : (c != h) = true := by simp [he]
     have FIN : Hid _ := fun w' => @openEnds_nil k xs w w' 14 j (by rw [openS, HP.out, HHD.out, HD.out, chk, if_neg he]; simp)
     clear he
     go_wp2
     go_quiet (fail)
     go_wp2
     go_ret3
     exact FIN.out _ (below_drewN hb _)
   ·have FIN : Hid _ := fun w' => @openEnds_nil k xs w w' 11 xs.length (by rw [openS, HP.out, HHD.out, show xs.drop j = [] from List.drop_eq_nil_of_le (by omega), chk]; simp; omega)
    clear hr hrr hh
    go_wp2
    go_ret3
    exact FIN.out _ hb
  ·obtain rfl : j = 4 := by omega
   have h4 : 4 <= xs.length := by omega
   have h1 : (checkHead k xs).1 = 0 := by rw [HP.out]; rfl
   clear HP
   obtain ⟨n, s, ep, hp⟩ : ∃ n s e, parse (xs.drop 4) = (n, s, e) := ⟨_, _, _, rfl⟩
   have hO : openS k xs = openS k xs := rfl
   conv at hO => rhs; rw [openS, if_neg (by simp [h1]), hp]
   obtain ⟨hpe, hpf⟩ := parse_facts (xs.drop 4) (isBytes_drop hr.1 4) n s ep hp
   have HP : Hid _ := hp
   clear hp h1 hh
   rcases hpe with rfl | rfl | rfl
   ·conv at hO => rhs; rw [if_pos rfl]
    have FIN : Hid _ := fun w' => @openEnds_nil k xs w w' _ _ hO
    clear hO hpf
    go_wp2_with (go_at_call 162; refine (refnum_any ao xs.length cap 4 xs wr rfl hl h4 hrr n s 11 HP.out).mono ?_; rintro e w2 ⟨rfl, rfl⟩)
    go_ret3
    exact FIN.out _ hb
   ·conv at hO => rhs; rw [if_neg (by simp), if_pos (by simp)]
    have FIN : Hid _ := fun w' => @openEnds_nil k xs w w' _ _ hO
    clear hO hpf
    go_wp2_with (go_at_call 162; refine (refnum_any ao xs.length cap 4 xs wr rfl hl h4 hrr n s 13 HP.out).mono ?_; rintro e w2 ⟨rfl, rfl⟩)
    go_ret3
    exact FIN.out _ hb
   ·conv at hO => rhs; rw [if_neg (by simp), if_neg (by simp)]
    obtain ⟨hs1, hs2, hs3, hn1, hn2⟩ := hpf rfl
    clear hpf
    simp only [List.length_drop] at hs3
    by_cases hlong : 16777216 < n
    ·conv at hO => rhs; rw [if_pos hlong]
     have FIN : Hid _ := fun w' => @openEnds_nil k xs w w' _ _ hO
     clear hO
     go_wp2_with (go_at_call 162; refine (refnum_any ao xs.length cap 4 xs wr rfl hl h4 hrr n s 0 HP.out).mono ?_; rintro e w2 ⟨rfl, rfl⟩)
     go_ret3
     exact FIN.out _ hb
    ·conv at hO => rhs; rw [if_neg hlong]
     by_cases hshort : (xs.length : Int) < 4 + s + n + 4
     ·conv at hO => rhs; rw [if_pos hshort]
      have FIN : Hid _ := fun w' => @openEnds_nil k xs w w' _ _ hO
      clear hO
      go_wp2_with (go_at_call 162; refine (refnum_any ao xs.length cap 4 xs wr rfl hl h4 hrr n s 0 HP.out).mono ?_; rintro e w2 ⟨rfl, rfl⟩)
      go_ret3
      exact FIN.out _ hb
     ·conv at hO => rhs; rw [if_neg hshort]
      by_cases htail : 4 + s + n + 4 < (xs.length : Int)
      ·conv at hO => rhs; rw [if_pos htail]
       have FIN : Hid _ := fun w' => @openEnds_nil k xs w w' _ _ hO
       clear hO
       go_wp2_with (go_at_call 162; refine (refnum_any ao xs.length cap 4 xs wr rfl hl h4 hrr n s 0 HP.out).mono ?_; rintro e w2 ⟨rfl, rfl⟩)
       go_ret3
       exact FIN.out _ hb
      ·conv at hO => rhs; rw [if_neg htail]
       obtain ⟨b, off, rfl, hc⟩ := hrr.2 (by intro h; subst h; simp at h4)
       obtain ⟨n, rfl⟩ := Int.eq_ofNat_of_zero_le hn1
       obtain ⟨s, rfl⟩ := Int.eq_ofNat_of_zero_le (show 0 <= s by omega)
       have hT : (4 + (s : Int) + (n : Int)).toNat = 4 + s + n := by omega
       have hF : (4 + (s : Int)).toNat = 4 + s := by omega
       rw [hT, hF] at hO
       have HK2 : Hid (4 + s + n = (xs.take (4 + s + n)).length) := by show _ = _; simp; omega
       have HK4 : Hid ((xs.take (4 + s + n)).length <= 140737488355328) := by show _ <= _; simp; omega
       have hle : 4 + s + n + 4 <= xs.length := by omega
       have hge : xs.length <= 4 + s + n + 4 := by omega
       have hn3 : n <= 16777216 := by omega
       have hs4 : s <= 10 := by omega
       clear hT hF hshort htail hlong hs1 hs2 hs3 hn1 hn2
       have x0 := hc (4 + s + n) (by omega)
       have x1 := hc (4 + s + n + 1) (by omega)
       have x2 := hc (4 + s + n + 2) (by omega)
       have x3 := hc (4 + s + n + 3) (by omega)
       have y0 := hr.1.at (4 + s + n)
       have y1 := hr.1.at (4 + s + n + 1)
       have y2 := hr.1.at (4 + s + n + 2)
       have y3 := hr.1.at (4 + s + n + 3)
       have hd := drop_four xs (4 + s + n) (by omega)
       have hab := adler_bd (xs.take (4 + s + n))
       have HJ : Hid (joinSum (xs.drop (4 + s + n)) = adler (xs.take (4 + s + n)) ↔ (xs.getD (4 + s + n) 0 = adler (xs.take (4 + s + n)) / 16777216 /\ xs.getD (4 + s + n + 1) 0 = adler (xs.take (4 + s + n)) / 65536 % 256 /\ xs.getD (4 + s + n + 2) 0 = adler (xs.take (4 + s + n)) / 256 % 256 /\ xs.getD (4 + s + n + 3) 0 = adler (xs.take (4 + s + n)) % 256)) := by
        show _ ↔ _
        rw [hd]; exact sumBytes_join (adler (xs.take (4 + s + n))) hab.1 hab.2 _ _ _ _ y0 y1 y2 y3
       have HO : Hid _ := hO
       clear hO hd hc hr
       generalize xs.getD (4 + s + n) 0 = d0 at *
       generalize xs.getD (4 + s + n + 1) 0 = d1 at *
       generalize xs.getD (4 + s + n + 2) 0 = d2 at *
       generalize xs.getD (4 + s + n + 3) 0 = d3 at *
       by_cases z0 : d0 = adler (xs.take (4 + s + n)) / 16777216
       ·by_cases z1 : d1 = adler (xs.take (4 + s + n)) / 65536 % 256
        ·by_cases z2 : d2 = adler (xs.take (4 + s + n)) / 256 % 256
         ·by_cases z3 : d3 = adler (xs.take (4 + s + n)) % 256
          ·have v0 : (d0 != adler (xs.take (4 + s + n)) / 16777216) = false := by simp [z0]
           have v1 : (d1 != adler (xs.take (4 + s + n)) / 65536 % 256) = false := by simp [z1]
           have v2 : (d2 != adler (xs.take (4 + s + n)) / 256 % 256) = false := by simp [z2]
           have v3 : (d3 != adler (xs.take (4 + s + n)) % 256) = false := by simp [z3]
           have HZ : Hid _ := HO.out.trans (if_neg (by simp [HJ.out.2 ⟨z0, z1, z2, z3⟩]))
           have HK5 : Hid (4 + s + n - (4 + s) = ((xs.take (4 + s + n)).drop (4 + s)).length) := by show _ = _; simp; omega
           have HK6 : Hid (([] : List Int).length + ((xs.take (4 + s + n)).drop (4 + s)).length <= 140737488355328) := by show _ <= _; simp; omega
           clear z0 z1 z2 z3 HO HJ
           go_wp2_with (first | (go_at_call 162; refine (refnum_any (some ⟨b, off, none⟩) xs.length cap 4 xs wr rfl hl h4 hrr n s 0 HP.out).mono ?_; rintro e w2 ⟨rfl, rfl⟩) | (go_at_call 150; refine (refsum_at (some ⟨b, off, none⟩) (4 + s + n) cap (xs.take (4 + s + n)) wr HK2.out HK4.out (hrr.take (4 + s + n))).mono ?_; rintro e w3 ⟨rfl, rfl⟩) | (at_builtin; (refine wpList_own_append_n rfl (.tmp 115) (.tmp 119) rfl _ [] rfl (Own.nil wr) _ (4 + s + n - (4 + s)) _ ((xs.take (4 + s + n)).drop (4 + s)) HK5.out rfl ((hrr.take (4 + s + n)).drop (4 + s)) no_nil HK6.out ?_); intro v5 w5 ho5 hg5; obtain ⟨hB5, hv5⟩ := grew_new hb (nil_own _) hg5))
           go_ret3
           exact ⟨_, by rw [HZ.out]; rfl, by rw [HZ.out]; exact ho5, hv5, hB5⟩
          ·have v0 : (d0 != adler (xs.take (4 + s + n)) / 16777216) = false := by simp [z0]
           have v1 : (d1 != adler (xs.take (4 + s + n)) / 65536 % 256) = false := by simp [z1]
           have v2 : (d2 != adler (xs.take (4 + s + n)) / 256 % 256) = false := by simp [z2]
           have v3 : (d3 != adler (xs.take (4 + s + n)) % 256) = true := by simp [z3]
           have FIN : Hid _ := fun w' => @openEnds_nil k xs w w' _ _ (HO.out.trans (if_pos fun q => z3 ((HJ.out.1 q).2.2.2)))
           clear z0 z1 z2 z3 HO HJ
           go_wp2_with (first | (go_at_call 162; refine (refnum_any (some ⟨b, off, none⟩) xs.length cap 4 xs wr rfl hl h4 hrr n s 0 HP.out).mono ?_; rintro e w2 ⟨rfl, rfl⟩) | (go_at_call 150; refine (refsum_at (some ⟨b, off, none⟩) (4 + s + n) cap (xs.take (4 + s + n)) wr HK2.out HK4.out (hrr.take (4 + s + n))).mono ?_; rintro e w3 ⟨rfl, rfl⟩))
           go_ret3
           exact FIN.out _ hb
         ·have v0 : (d0 != adler (xs.take (4 + s + n)) / 16777216) = false := by simp [z0]
          have v1 : (d1 != adler (xs.take (4 + s + n)) / 65536 % 256) = false := by simp [z1]
          have v2 : (d2 != adler (xs.take (4 + s + n)) / 256 % 256) = true := by simp [z2]
          have FIN : Hid _ := fun w' => @openEnds_nil k xs w w' _ _ (HO.out.trans (if_pos fun q => z2 ((HJ.out.1 q).2.2.1)))
          clear z0 z1 z2 HO HJ
          go_wp2_with (first | (go_at_call 162; refine (refnum_any (some ⟨b, off, none⟩) xs.length cap 4 xs wr rfl hl h4 hrr n s 0 HP.out).mono ?_; rintro e w2 ⟨rfl, rfl⟩) | (go_at_call 150; refine (refsum_at (some ⟨b, off, none⟩) (4 + s + n) cap (xs.take (4 + s + n)) wr HK2.out HK4.out (hrr.take (4 + s + n))).mono ?_; rintro e w3 ⟨rfl, rfl⟩))
          go_ret3
          exact FIN.out _ hb
        ·have v0 : (d0 != adler (xs.take (4 + s + n)) / 16777216) = false := by simp [z0]
         have v1 : (d1 != adler (xs.take (4 + s + n)) / 65536 % 256) = true := by simp [z1]
         have FIN : Hid _ := fun w' => @openEnds_nil k xs w w' _ _ (HO.out.trans (if_pos fun q => z1 ((HJ.out.1 q).2.1)))
         clear z0 z1 HO HJ
         go_wp2_with (first | (go_at_call 162; refine (refnum_any (some ⟨b, off, none⟩) xs.length cap 4 xs wr rfl hl h4 hrr n s 0 HP.out).mono ?_; rintro e w2 ⟨rfl, rfl⟩) | (go_at_call 150; refine (refsum_at (some ⟨b, off, none⟩) (4 + s + n) cap (xs.take (4 + s + n)) wr HK2.out HK4.out (hrr.take (4 + s + n))).mono ?_; rintro e w3 ⟨rfl, rfl⟩))
         go_ret3
         exact FIN.out _ hb
       ·have v0 : (d0 != adler (xs.take (4 + s + n)) / 16777216) = true := by simp [z0]
        have FIN : Hid _ := fun w' => @openEnds_nil k xs w w' _ _ (HO.out.trans (if_pos fun q => z0 ((HJ.out.1 q).1)))
        clear z0 HO HJ
        go_wp2_with (first | (go_at_call 162; refine (refnum_any (some ⟨b, off, none⟩) xs.length cap 4 xs wr rfl hl h4 hrr n s 0 HP.out).mono ?_; rintro e w2 ⟨rfl, rfl⟩) | (go_at_call 150; refine (refsum_at (some ⟨b, off, none⟩) (4 + s + n) cap (xs.take (4 + s + n)) wr HK2.out HK4.out (hrr.take (4 + s + n))).mono ?_; rintro e w3 ⟨rfl, rfl⟩))
        go_ret3
        exact FIN.out _ hb
end Go.Proofs.YtmkakdfdfdcncaaGreatDoor.C
