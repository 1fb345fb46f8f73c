import Derived.Test.YtfckmbdcfeljiaaDoorRefN
import Derived.Test.YtfckmbdcfeljiaaDoorTake
import Derived.Test.YtfckmbdcfeljiaaDoorCount
namespace Go.Proofs.YtfckmbdcfeljiaaDoor
set_option linter.unusedVariables false
open Go.RowKit

/-- Where the first error lies. -/
def spotS (pos : Nat) (err : Int) : Int := if err = 0 then 0 else pos
/-- The document's reader: one block. -/
structure QInv (w : World) (q : Nat) (ao : Option Addr) (cap : Nat) (xs : List Int) (pos : Nat) (err : Int) : Prop where
  hq : w.heap[q]? = some (.cells #[.slice ao xs.length cap, .int .i64 pos, .int .i64 err, .int .i64 (spotS pos err)] 59 (0, 0))
  row : RowAt w ao xs
  pos_ : pos ≤ xs.length
  lim : xs.length ≤ 140737488355328
  far : ∀ b off, ao = some ⟨b, off, none⟩ → xs ≠ [] → b ≠ q
section
variable {w : World} {q : Nat} {ao : Option Addr} {cap : Nat} {xs : List Int} {pos : Nat} {err : Int}
theorem QInv.c0 (h : QInv w q ao cap xs pos err) : w.cell? ⟨q, 0, none⟩ = some (.slice ao xs.length cap) := by simp [World.cell?, h.hq]
theorem QInv.c1 (h : QInv w q ao cap xs pos err) : w.cell? ⟨q, 1, none⟩ = some (.int .i64 pos) := by simp [World.cell?, h.hq]
theorem QInv.c2 (h : QInv w q ao cap xs pos err) : w.cell? ⟨q, 2, none⟩ = some (.int .i64 err) := by simp [World.cell?, h.hq]
theorem QInv.c3 (h : QInv w q ao cap xs pos err) : w.cell? ⟨q, 3, none⟩ = some (.int .i64 (spotS pos err)) := by simp [World.cell?, h.hq]
theorem QInv.free (h : QInv w q ao cap xs pos err) (j : Nat) : w.frozen? ⟨q, j, none⟩ = false := by simp [World.frozen?, h.hq]
theorem qfail_no (h : QInv w q ao cap xs pos err) (e : Int) (hne : (err == 0) = false) : Calls Tryd.prog 77 #[.pointer (some ⟨q, 0, none⟩), .int .i64 e] w fun x w' => x = .returned (.tuple #[]) ∧ w = w' := by
  have c2 := h.c2
  go_enter Tryd.func77, Tryd.ntmps77
  go_wp2
  go_end0
  exact ⟨rfl, rfl⟩
theorem QInv.rowOnly (h : QInv w q ao cap xs pos err) {w' : World} (hb : ∀ k, k < w.heap.size → k ≠ q → w'.heap[k]? = w.heap[k]?) : RowAt w' ao xs := by
  refine ⟨h.row.1, fun hne => ?_⟩
  obtain ⟨b, off, he, hc⟩ := h.row.2 hne
  refine ⟨b, off, he, fun i hi => ?_⟩
  have := hc i hi
  rw [← this]
  exact World.cell?_of_block (a := ⟨b, off + i, none⟩) (hb b (World.block_lt_of_cell? w _ this) (h.far b off he hne))
theorem QInv.later (h : QInv w q ao cap xs pos err) {w' : World} (hb : Below w.heap.size w w') : QInv w' q ao cap xs pos err :=
  ⟨(hb.block q (lt_of_block h.hq)).trans h.hq, h.row.later hb, h.pos_, h.lim, h.far⟩
theorem QInv.failed (h : QInv w q ao cap xs pos 0) (e : Int) (he : e ≠ 0) : QInv ((w.setCell ⟨q, 2, none⟩ (.int .i64 e)).setCell ⟨q, 3, none⟩ (.int .i64 pos)) q ao cap xs pos e := by
  have b1 := heap_set h.hq 2 (.int .i64 e)
  refine ⟨?_, h.rowOnly fun k _ hk => by rw [Below.heap_setCell _ _ _ _ hk, Below.heap_setCell _ _ _ _ hk], h.pos_, h.lim, h.far⟩
  rw [heap_set b1 3 (.int .i64 pos)]
  simp [spotS, he]
theorem QInv.moved (h : QInv w q ao cap xs pos err) (p : Nat) (hp : p ≤ xs.length) (he : err ≠ 0 → p = pos) : QInv (w.setCell ⟨q, 1, none⟩ (.int .i64 p)) q ao cap xs p err := by
  refine ⟨?_, h.rowOnly fun k _ hk => by rw [Below.heap_setCell _ _ _ _ hk], hp, h.lim, h.far⟩
  rw [heap_set h.hq 1 (.int .i64 p)]
  by_cases z : err = 0
  · simp [spotS, z]
  · simp [spotS, z, he z]
theorem qfail_ok (h : QInv w q ao cap xs pos 0) (e : Int) (he : e ≠ 0) : Calls Tryd.prog 77 #[.pointer (some ⟨q, 0, none⟩), .int .i64 e] w fun x w' => x = .returned (.tuple #[]) ∧ QInv w' q ao cap xs pos e ∧ ROnly w w' q := by
  have c1 := h.c1
  have c2 := h.c2
  have c3 := h.c3
  have f2 := h.free 2
  have f3 := h.free 3
  have HF : Hid _ := h.failed e he
  go_enter Tryd.func77, Tryd.ntmps77
  go_wp2
  go_end0
  exact ⟨rfl, HF.out, (ROnly.set _ _ _ _).trans (ROnly.set _ _ _ _)⟩
end
theorem refnum_q (ao : Option Addr) (N cap at' : Nat) (xs : List Int) (w : World) (hN : N = xs.length) (hl : xs.length ≤ 140737488355328) (hat : at' ≤ xs.length) (hr : RowAt w ao xs) (n s er : Int) (hp : parse (xs.drop at') = (n, s, er)) :
    Calls Tryd.prog 76 #[.slice ao N cap, .int .i64 at'] w fun e w' => e = .returned (.tuple #[.int .u64 n, .int .i64 (at' + s), .int .i64 er]) ∧ w' = w :=
  (refnum_any ao N cap at' xs w hN hl hat hr n s er hp).mono fun e w' h => ⟨h.1, h.2.symm⟩
set_option maxRecDepth 100000 in
set_option maxHeartbeats 1000000 in
theorem qnumber0 {w : World} {q : Nat} {ao : Option Addr} {cap : Nat} {xs : List Int} {pos : Nat} {err : Int} (most : Int) (h : QInv w q ao cap xs pos err) (n : Int) (p : Nat) (e : Int) (ht : takeS xs pos err most = (n, p, e)) :
    Calls Tryd.prog 52 #[.pointer (some ⟨q, 0, none⟩), .int .u64 most] w fun x w' => x = .returned (.tuple #[.int .u64 n, .int .i64 p]) ∧ QInv w' q ao cap xs pos e ∧ ROnly w w' q := by
  have c0 := h.c0
  have c1 := h.c1
  have c2 := h.c2
  rw [takeS] at ht
  by_cases he : err = 0
  · subst he
    rw [if_neg (by simp)] at ht
    obtain ⟨n', s, ep, hp⟩ : ∃ n s e, parse (xs.drop pos) = (n, s, e) := ⟨_, _, _, rfl⟩
    obtain ⟨hpe, hpf⟩ := parse_facts (xs.drop pos) (isBytes_drop h.row.1 pos) n' s ep hp
    rw [peekS, hp] at ht
    simp only at ht
    have HP : Hid _ := hp
    clear hp
    have HLM : Hid (xs.length ≤ 140737488355328) := h.lim
    have HPS : Hid (pos ≤ xs.length) := h.pos_
    have HR : Hid (∀ n, RowAt (w.drewN n) ao xs) := fun n => h.row.later (below_drewN (Below.refl _ _) n)
    have HD : Hid (∀ n, QInv (w.drewN n) q ao cap xs pos 0) := fun n => h.later (below_drewN (Below.refl _ _) n)
    by_cases hz : ep = 0
    · subst hz
      obtain ⟨hs1, hs2, hs3, hn1, hn2⟩ := hpf rfl
      simp only [List.length_drop] at hs3
      have hpos := h.pos_
      have hlim := h.lim
      by_cases hbig : most < n'
      · simp [hbig] at ht
        obtain ⟨rfl, rfl, rfl⟩ := ht
        have HNE : Hid ((4 : Int) ≠ 0) := by show _ ≠ _; decide
        clear hpf hpe h
        go_enter Tryd.func52, Tryd.ntmps52
        go_wp2
        go_quiet ((go_at_call 76; exact Calls.quiet_of_same (refnum_q ao xs.length cap pos xs _ rfl HLM.out HPS.out (HR.out _) n' s 0 HP.out)))
        go_wp2_with (go_at_call 77; refine (qfail_ok (HD.out _) 4 HNE.out).mono ?_; rintro x w4 ⟨rfl, hq4, ho4⟩; have k1 := hq4.c1; have k2 := hq4.c2)
        go_wp2
        go_quiet (fail)
        go_wp2
        go_ret2
        exact ⟨rfl, hq4.later (below_drewN (Below.refl _ _) _), ((ROnly.ofBelow (below_drewN (Below.refl _ _) _)).trans ho4).trans (ROnly.ofBelow (below_drewN (Below.refl _ _) _))⟩
      · simp [hbig] at ht
        obtain ⟨rfl, rfl, rfl⟩ := ht
        obtain ⟨s, rfl⟩ := Int.eq_ofNat_of_zero_le (show 0 ≤ s by omega)
        clear hpf hpe h
        go_enter Tryd.func52, Tryd.ntmps52
        go_wp2
        go_quiet ((go_at_call 76; exact Calls.quiet_of_same (refnum_q ao xs.length cap pos xs _ rfl HLM.out HPS.out (HR.out _) n' (s : Int) 0 HP.out)))
        go_wp2
        go_ret2
        exact ⟨by simp, HD.out _, ROnly.ofBelow (below_drewN (Below.refl _ _) _)⟩
    · simp [hz] at ht
      obtain ⟨rfl, rfl, rfl⟩ := ht
      have HNE : Hid (ep ≠ 0) := hz
      have hzb : (ep != 0) = true := by simpa using hz
      have hzb' : (ep == 0) = false := by simpa using hz
      clear hpf hpe h hz
      go_enter Tryd.func52, Tryd.ntmps52
      go_wp2
      go_quiet ((go_at_call 76; exact Calls.quiet_of_same (refnum_q ao xs.length cap pos xs _ rfl HLM.out HPS.out (HR.out _) n' s ep HP.out)))
      go_wp2_with (go_at_call 77; refine (qfail_ok (HD.out _) ep HNE.out).mono ?_; rintro x w4 ⟨rfl, hq4, ho4⟩; have k1 := hq4.c1; have k2 := hq4.c2)
      go_wp2
      go_quiet (fail)
      go_wp2
      go_ret2
      exact ⟨rfl, hq4.later (below_drewN (Below.refl _ _) _), ((ROnly.ofBelow (below_drewN (Below.refl _ _) _)).trans ho4).trans (ROnly.ofBelow (below_drewN (Below.refl _ _) _))⟩
  · rw [if_pos he] at ht
    simp at ht
    obtain ⟨rfl, rfl, rfl⟩ := ht
    have hzb : (err != 0) = true := by simpa using he
    go_enter Tryd.func52, Tryd.ntmps52
    go_wp2
    go_quiet (fail)
    go_wp2
    go_ret2
    exact ⟨rfl, h.later (below_drewN (Below.refl _ _) _), ROnly.ofBelow (below_drewN (Below.refl _ _) _)⟩
theorem QInv.only_lt {w w' : World} {q : Nat} (h : ROnly w w' q) {B : Nat} (hB : B ≤ q) (hw : B ≤ w.heap.size) : Below B w w' := h.below hB hw
theorem takeS_pos (xs : List Int) (hb : isBytes xs) (pos : Nat) (hpos : pos ≤ xs.length) (err most n e : Int) (p : Nat) (h : takeS xs pos err most = (n, p, e)) : p ≤ xs.length ∧ (e ≠ 0 → p = pos) := by
  rw [takeS] at h
  by_cases he : err ≠ 0
  · rw [if_pos he] at h; simp at h; omega
  · rw [if_neg he] at h
    obtain ⟨a, b, c, hk⟩ : ∃ a b c, peekS xs pos most = (a, b, c) := ⟨_, _, _, rfl⟩
    have hf := peekS_facts xs hb pos hpos most a b c hk
    rw [hk] at h
    simp only at h
    by_cases hc : c ≠ 0
    · rw [if_pos hc] at h; simp at h; omega
    · rw [if_neg hc] at h; simp at h; have := hf.2 (Classical.not_not.1 hc); omega
section
variable {w : World} {q : Nat} {ao : Option Addr} {cap : Nat} {xs : List Int} {pos : Nat} {err : Int}
/-- What a reading by the document's reader leaves. -/
def QEnds (q : Nat) (ao : Option Addr) (cap : Nat) (xs : List Int) (v : Value) (p : Nat) (e : Int) (w : World) (x : Ending) (w' : World) : Prop :=
  x = .returned v ∧ QInv w' q ao cap xs p e ∧ ROnly w w' q
set_option maxRecDepth 100000 in
set_option maxHeartbeats 1000000 in
theorem qnumber (h : QInv w q ao cap xs pos err) (n : Int) (p : Nat) (e : Int) (ht : takeS xs pos err 18446744073709551615 = (n, p, e)) :
    Calls Tryd.prog 16 #[.pointer (some ⟨q, 0, none⟩)] w (QEnds q ao cap xs (.int .u64 n) p e w) := by
  obtain ⟨tp1, tp2⟩ := takeS_pos xs h.row.1 pos h.pos_ err _ n e p ht
  have HT : Hid _ := ht
  have TP : Hid (e ≠ 0 → p = pos) := tp2
  clear ht tp2
  go_enter Tryd.func16, Tryd.ntmps16
  go_wp2_with (go_at_call 52; refine (qnumber0 18446744073709551615 h n p e HT.out).mono ?_; rintro x w2 ⟨rfl, hq2, ho2⟩; have k1 := hq2.c1; have f1 := hq2.free 1)
  go_ret
  exact ⟨rfl, hq2.moved p tp1 TP.out, ho2.trans (ROnly.set _ _ _ _)⟩
/-- The first error stays. -/
theorem qfail (h : QInv w q ao cap xs pos err) (e : Int) (he : e ≠ 0) (err' : Int) (hx : err' = if err = 0 then e else err) : Calls Tryd.prog 77 #[.pointer (some ⟨q, 0, none⟩), .int .i64 e] w (QEnds q ao cap xs (.tuple #[]) pos err' w) := by
  by_cases z : err = 0
  · subst z
    rw [if_pos rfl] at hx; subst hx
    exact (qfail_ok h _ he)
  · rw [if_neg z] at hx; subst hx
    refine (qfail_no h e (by simpa using z)).mono ?_
    rintro x w' ⟨rfl, rfl⟩
    exact ⟨rfl, h, ROnly.refl _ _⟩
end
end Go.Proofs.YtfckmbdcfeljiaaDoor
