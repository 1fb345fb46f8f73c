import Derived.Test.YthgnhdnmcjpdmaaGreatDoorPGDec9ToGDec11
import Derived.Test.YthgnhdnmcjpdmaaGreatDoorPGEnc3
import Derived.Test.YthgnhdnmcjpdmaaGreatDoorPCountToBack0
import Derived.Test.YthgnhdnmcjpdmaaGreatDoorPReaderToPeek
namespace Go.Proofs.YthgnhdnmcjpdmaaGreatDoor
set_option linter.unusedVariables false
set_option maxRecDepth 100000
set_option maxHeartbeats 16000000
open Go.RowKit
def itS (zs : List Int) (p : Nat) (e : Int) : Int × Nat × Int := C.takeS zs p e 2147483647
def sgS (zs : List Int) (p : Nat) (e : Int) : Int × Nat × Int := (C.unfoldS (C.takeS zs p e 4294967294).1, (C.takeS zs p e 4294967294).2)
def ctS (zs : List Int) (p : Nat) (e : Int) : Nat × Nat × Int :=
 if e ≠ 0 then (0, p, e) else if (C.countS zs p 1 2147483647).2.2 ≠ 0 then (0, p, (C.countS zs p 1 2147483647).2.2) else ((C.countS zs p 1 2147483647).1.toNat, p + (C.countS zs p 1 2147483647).2.1.toNat, 0)
def txS (zs : List Int) (p : Nat) (e : Int) : ByteArray × Nat × Int :=
 if e ≠ 0 then (.empty, p, e) else if (C.countS zs p 1 65536).2.2 ≠ 0 then (.empty, p, (C.countS zs p 1 65536).2.2) else (C.toStr ((zs.drop (p + (C.countS zs p 1 65536).2.1.toNat)).take (C.countS zs p 1 65536).1.toNat), p + (C.countS zs p 1 65536).2.1.toNat + (C.countS zs p 1 65536).1.toNat, 0)
def syS (zs : List Int) (p : Nat) (e : Int) : (Int × Int) × Nat × Int := ((if (itS zs p e).1 % 2 = 1 then 2 else 1, (itS zs p e).1 / 2), (itS zs p e).2)
def lsS {α : Type} (R : Nat -> Int -> α × Nat × Int) : Nat -> Nat -> Int -> List α × Nat × Int
 | 0, p, e => ([], p, e)
 | n + 1, p, e => if (R p e).2.1 = p then ([], (R p e).2) else ((R p e).1 :: (lsS R n (R p e).2.1 (R p e).2.2).1, (lsS R n (R p e).2.1 (R p e).2.2).2)
def liS {α : Type} (zs : List Int) (R : Nat -> Int -> α × Nat × Int) (p : Nat) (e : Int) : List α × Nat × Int := lsS R (ctS zs p e).1 (ctS zs p e).2.1 (ctS zs p e).2.2
def bdS {α β : Type} (R : Nat -> Int -> α × Nat × Int) (S : Nat -> Int -> β × Nat × Int) (p : Nat) (e : Int) : (α × β) × Nat × Int := (((R p e).1, (S (R p e).2.1 (R p e).2.2).1), (S (R p e).2.1 (R p e).2.2).2)
def lvS (zs : List Int) : Nat -> Int -> (Int × List Int) × Nat × Int := bdS (itS zs) (liS zs (itS zs))
def prS (zs : List Int) : Nat -> Int -> (Int × List (Int × Int) × Int) × Nat × Int := bdS (itS zs) (bdS (liS zs (syS zs)) (sgS zs))
abbrev GC : Type := List ByteArray × List ByteArray × Int × List (Int × List (Int × Int) × Int) × List (Int × List Int)
def grS (zs : List Int) : Nat -> Int -> GC × Nat × Int := bdS (liS zs (txS zs)) (bdS (liS zs (txS zs)) (bdS (itS zs) (bdS (liS zs (prS zs)) (liS zs (lvS zs)))))
structure Rd {α : Type} (zs : List Int) (R : Nat -> Int -> α × Nat × Int) (f : α -> List Int) : Prop where
 stuck : ∀ p e, e ≠ 0 -> (R p e).2 = (p, e)
 mono : ∀ p e, p <= zs.length -> p <= (R p e).2.1 /\ (R p e).2.1 <= zs.length
 ok : ∀ p, p <= zs.length -> (R p 0).2.2 = 0 -> zs.take (R p 0).2.1 = zs.take p ++ f (R p 0).1
section
variable {α : Type} {zs : List Int} {R : Nat -> Int -> α × Nat × Int} {f : α -> List Int}
theorem Rd.zero (h : Rd zs R f) {p : Nat} {e : Int} (hz : (R p e).2.2 = 0) : e = 0 := by
 by_cases he : e = 0
 ·exact he
 ·rw [h.stuck p e he] at hz; exact hz
end
structure Rd1 {α : Type} (zs : List Int) (R : Nat -> Int -> α × Nat × Int) (f : α -> List Int) : Prop extends Rd zs R f where
 more : ∀ p, p <= zs.length -> (R p 0).2.2 = 0 -> p < (R p 0).2.1
theorem takeS_stuck (zs : List Int) (p : Nat) (e m : Int) (h : e ≠ 0) : C.takeS zs p e m = (0, p, e) := by rw [C.takeS, if_pos h]
theorem rd_take {zs : List Int} (hb : C.isBytes zs) (m : Int) : Rd1 zs (fun p e => C.takeS zs p e m) (fun n => C.enc 10 n) := by
 refine ⟨⟨fun p e h => by show (C.takeS zs p e m).2 = _; rw [takeS_stuck zs p e m h], fun p e hp => ?_, fun p hp h => ?_⟩, fun p hp h => ?_⟩
 ·obtain ⟨n, q, x, ht⟩ : ∃ n q x, C.takeS zs p e m = (n, q, x) := ⟨_, _, _, rfl⟩
  show p <= (C.takeS zs p e m).2.1 /\ (C.takeS zs p e m).2.1 <= zs.length
  by_cases he : e = 0
  ·subst he
   by_cases hx : x = 0
   ·subst hx
    obtain ⟨_, _, _, h4, h5, _⟩ := C.takeS_ok hb hp ht
    rw [ht]; show p <= q /\ q <= _; omega
   ·obtain ⟨_, h2, _⟩ := C.takeS_err hb hp ht hx
    rw [ht]; show p <= q /\ q <= _; omega
  ·rw [takeS_stuck zs p e m he]; exact ⟨Nat.le_refl _, hp⟩
 ·obtain ⟨n, q, x, ht⟩ : ∃ n q x, C.takeS zs p 0 m = (n, q, x) := ⟨_, _, _, rfl⟩
  have hx : x = 0 := by have : (C.takeS zs p 0 m).2.2 = 0 := h; rw [ht] at this; exact this
  subst hx
  show zs.take (C.takeS zs p 0 m).2.1 = _ ++ C.enc 10 (C.takeS zs p 0 m).1
  rw [ht]; exact (C.takeS_ok hb hp ht).2.2.2.2.2
 ·obtain ⟨n, q, x, ht⟩ : ∃ n q x, C.takeS zs p 0 m = (n, q, x) := ⟨_, _, _, rfl⟩
  have hx : x = 0 := by have : (C.takeS zs p 0 m).2.2 = 0 := h; rw [ht] at this; exact this
  subst hx
  show p < (C.takeS zs p 0 m).2.1
  rw [ht]; exact (C.takeS_ok hb hp ht).2.2.2.1
theorem take_range {zs : List Int} (hb : C.isBytes zs) (m : Int) (hm : 0 <= m) (p : Nat) (hp : p <= zs.length) (e : Int) : 0 <= (C.takeS zs p e m).1 /\ (C.takeS zs p e m).1 <= m := by
 obtain ⟨n, q, x, ht⟩ : ∃ n q x, C.takeS zs p e m = (n, q, x) := ⟨_, _, _, rfl⟩
 rw [ht]
 by_cases he : e = 0
 ·subst he
  by_cases hx : x = 0
  ·subst hx
   obtain ⟨h1, h2, _⟩ := C.takeS_ok hb hp ht
   exact ⟨h1, h2⟩
  ·obtain ⟨h1, _, _⟩ := C.takeS_err hb hp ht hx
   show 0 <= n /\ n <= m; omega
 ·rw [takeS_stuck zs p e m he] at ht
  cases ht
  exact ⟨Int.le_refl _, hm⟩
theorem rd_in {zs : List Int} (hb : C.isBytes zs) : Rd1 zs (itS zs) encI := rd_take hb 2147483647
theorem fold_unfold (n : Int) (h : 0 <= n) : C.foldS (C.unfoldS n) = n := by
 unfold C.foldS C.unfoldS
 by_cases h1 : n % 2 = 1
 ·rw [if_pos h1, if_pos (by omega)]; omega
 ·rw [if_neg h1, if_neg (by omega)]; omega
theorem rd_sg {zs : List Int} (hb : C.isBytes zs) : Rd1 zs (sgS zs) (fun n => C.enc 10 (C.foldS n)) := by
 have h := rd_take hb 4294967294
 refine ⟨⟨h.stuck, h.mono, fun p hp hz => ?_⟩, h.more⟩
 show zs.take (C.takeS zs p 0 4294967294).2.1 = zs.take p ++ C.enc 10 (C.foldS (C.unfoldS (C.takeS zs p 0 4294967294).1))
 rw [fold_unfold _ (take_range hb 4294967294 (by omega) p hp 0).1]
 exact h.ok p hp hz
theorem rd_sy {zs : List Int} (hb : C.isBytes zs) : Rd1 zs (syS zs) encY := by
 have h := rd_in hb
 refine ⟨⟨h.stuck, h.mono, fun p hp hz => ?_⟩, h.more⟩
 have e : encY (syS zs p 0).1 = encI (itS zs p 0).1 := by
  show C.enc 10 (2 * ((itS zs p 0).1 / 2) + if (if (itS zs p 0).1 % 2 = 1 then (2 : Int) else 1) = 2 then 1 else 0) = C.enc 10 (itS zs p 0).1
  congr 1
  by_cases h1 : (itS zs p 0).1 % 2 = 1
  ·rw [if_pos h1, if_pos rfl]; omega
  ·rw [if_neg h1, if_neg (by omega)]; omega
 rw [e]
 exact h.ok p hp hz
theorem count_take {zs : List Int} {p : Nat} {m n s : Int} (hc : C.countS zs p 1 m = (n, s, 0)) : C.takeS zs p 0 m = (n, p + s.toNat, 0) := by
 rw [C.countS] at hc
 by_cases h1 : (1 : Int) < 1 ∨ m < 0
 ·rw [if_pos h1] at hc; simp at hc
 rw [if_neg h1] at hc
 by_cases h2 : (C.peekS zs p m).2.2 ≠ 0
 ·rw [if_pos h2] at hc
  simp only [Prod.mk.injEq] at hc
  exact absurd hc.2.2 h2
 rw [if_neg h2] at hc
 by_cases h3 : ((zs.length : Int) - p - (C.peekS zs p m).2.1) / 1 < (C.peekS zs p m).1
 ·rw [if_pos h3] at hc; simp at hc
 rw [if_neg h3] at hc
 simp only [Prod.mk.injEq, and_true] at hc
 rw [C.takeS, if_neg (by simp), if_neg h2, hc.1, hc.2]
theorem rd_ct {zs : List Int} (hb : C.isBytes zs) : Rd1 zs (ctS zs) (fun n => C.enc 10 (n : Int)) := by
 have hz : ∀ p, p <= zs.length -> (ctS zs p 0).2.2 = 0 -> ∃ n s : Nat, C.countS zs p 1 2147483647 = ((n : Int), (s : Int), 0) /\ ctS zs p 0 = (n, p + s, 0) := fun p hp h => by
  obtain ⟨n, s, e, hc⟩ : ∃ n s e, C.countS zs p 1 2147483647 = (n, s, e) := ⟨_, _, _, rfl⟩
  rw [ctS, if_neg (by simp), hc] at h
  by_cases he : e = 0
  ·subst he
   obtain ⟨_, f2⟩ := C.countS_facts zs hb p hp 1 2147483647 n s 0 hc
   obtain ⟨_, g1, _, _, g4, _⟩ := f2 rfl
   refine ⟨n.toNat, s.toNat, by rw [hc, Int.toNat_of_nonneg g4, Int.toNat_of_nonneg (by omega)], ?_⟩
   rw [ctS, if_neg (by simp), hc, if_neg (by simp)]
  ·rw [if_pos he] at h; exact absurd h he
 refine ⟨⟨fun p e h => by rw [ctS, if_pos h], fun p e hp => ?_, fun p hp h => ?_⟩, fun p hp h => ?_⟩
 ·by_cases he : e = 0
  ·subst he
   by_cases h : (ctS zs p 0).2.2 = 0
   ·obtain ⟨n, s, hc, e⟩ := hz p hp h
    obtain ⟨_, _, _, h4, h5, _⟩ := C.takeS_ok hb hp (count_take hc)
    rw [e]; show p <= p + s /\ p + s <= zs.length
    simp at h5; omega
   ·have e : (ctS zs p 0).2.1 = p := by
     rw [ctS, if_neg (by simp)] at h ⊢
     by_cases h1 : (C.countS zs p 1 2147483647).2.2 ≠ 0
     ·rw [if_pos h1]
     ·rw [if_neg h1] at h; simp at h
    rw [e]; exact ⟨Nat.le_refl _, hp⟩
  ·have e : (ctS zs p e).2.1 = p := by rw [ctS, if_pos he]
   rw [e]; exact ⟨Nat.le_refl _, hp⟩
 ·obtain ⟨n, s, hc, e⟩ := hz p hp h
  rw [e]
  have := (C.takeS_ok hb hp (count_take hc)).2.2.2.2.2
  simpa using this
 ·obtain ⟨n, s, hc, e⟩ := hz p hp h
  rw [e]
  have := (C.takeS_ok hb hp (count_take hc)).2.2.2.1
  simpa using this
theorem rd_tx {zs : List Int} (hb : C.isBytes zs) : Rd1 zs (txS zs) encS := by
 have hz : ∀ p, p <= zs.length -> (txS zs p 0).2.2 = 0 -> ∃ n s : Nat, C.countS zs p 1 65536 = ((n : Int), (s : Int), 0) /\ txS zs p 0 = (C.toStr ((zs.drop (p + s)).take n), p + s + n, 0) /\ p + s + n <= zs.length /\ 1 <= s := fun p hp h => by
  obtain ⟨n, s, e, hc⟩ : ∃ n s e, C.countS zs p 1 65536 = (n, s, e) := ⟨_, _, _, rfl⟩
  rw [txS, if_neg (by simp), hc] at h
  by_cases he : e = 0
  ·subst he
   obtain ⟨_, f2⟩ := C.countS_facts zs hb p hp 1 65536 n s 0 hc
   obtain ⟨_, g1, _, g3, g4, _, g6, _⟩ := f2 rfl
   refine ⟨n.toNat, s.toNat, by rw [hc, Int.toNat_of_nonneg g4, Int.toNat_of_nonneg (by omega)], ?_, ?_, ?_⟩
   ·rw [txS, if_neg (by simp), hc, if_neg (by simp)]
   ·simp at g6; omega
   ·omega
  ·rw [if_pos he] at h; exact absurd h he
 refine ⟨⟨fun p e h => by rw [txS, if_pos h], fun p e hp => ?_, fun p hp h => ?_⟩, fun p hp h => ?_⟩
 ·by_cases he : e = 0
  ·subst he
   by_cases h : (txS zs p 0).2.2 = 0
   ·obtain ⟨n, s, hc, e, h1, h2⟩ := hz p hp h
    rw [e]; show p <= p + s + n /\ p + s + n <= zs.length
    omega
   ·have e : (txS zs p 0).2.1 = p := by
     rw [txS, if_neg (by simp)] at h ⊢
     by_cases h1 : (C.countS zs p 1 65536).2.2 ≠ 0
     ·rw [if_pos h1]
     ·rw [if_neg h1] at h; simp at h
    rw [e]; exact ⟨Nat.le_refl _, hp⟩
  ·have e : (txS zs p e).2.1 = p := by rw [txS, if_pos he]
   rw [e]; exact ⟨Nat.le_refl _, hp⟩
 ·obtain ⟨n, s, hc, e, h1, h2⟩ := hz p hp h
  rw [e]
  have ht := (C.takeS_ok hb hp (count_take hc)).2.2.2.2.2
  have hl : ((zs.drop (p + s)).take n).length = n := by rw [List.length_take, List.length_drop]; omega
  have hbt : C.isBytes ((zs.drop (p + s)).take n) := fun x hx => hb x (List.mem_of_mem_drop (List.mem_of_mem_take hx))
  have hsz : (C.toStr ((zs.drop (p + s)).take n)).size = n := by rw [<- C.strBytes_len, C.toStr_bytes _ hbt, hl]
  show zs.take (p + s + n) = zs.take p ++ (C.enc 10 ((C.toStr ((zs.drop (p + s)).take n)).size : Int) ++ C.strBytes (C.toStr ((zs.drop (p + s)).take n)))
  rw [hsz, C.toStr_bytes _ hbt, <- List.append_assoc, List.take_add]
  have ht' : zs.take (p + s) = zs.take p ++ C.enc 10 (n : Int) := by simpa using ht
  rw [ht']
 ·obtain ⟨n, s, hc, e, h1, h2⟩ := hz p hp h
  rw [e]; show p < p + s + n; omega
section
variable {α : Type} {zs : List Int} {R : Nat -> Int -> α × Nat × Int} {f : α -> List Int}
theorem ls_stuck (h : Rd zs R f) : ∀ (n p : Nat) (e : Int), e ≠ 0 -> lsS R n p e = ([], p, e)
 | 0, p, e, _ => rfl
 | n + 1, p, e, he => by
  have q := h.stuck p e he
  rw [lsS, if_pos (by rw [q]), q]
theorem ls_mono (h : Rd zs R f) : ∀ (n p : Nat) (e : Int), p <= zs.length -> p <= (lsS R n p e).2.1 /\ (lsS R n p e).2.1 <= zs.length
 | 0, p, e, hp => ⟨Nat.le_refl _, hp⟩
 | n + 1, p, e, hp => by
  have q := h.mono p e hp
  rw [lsS]
  by_cases h1 : (R p e).2.1 = p
  ·rw [if_pos h1]; exact q
  ·rw [if_neg h1]
   have := ls_mono h n (R p e).2.1 (R p e).2.2 q.2
   exact ⟨Nat.le_trans q.1 this.1, this.2⟩
theorem ls_ok (h : Rd1 zs R f) : ∀ (n p : Nat), p <= zs.length -> (lsS R n p 0).2.2 = 0 -> (lsS R n p 0).1.length = n /\ zs.take (lsS R n p 0).2.1 = zs.take p ++ (lsS R n p 0).1.flatMap f
 | 0, p, hp, _ => by simp [lsS]
 | n + 1, p, hp, hz => by
  have q := h.mono p 0 hp
  rw [lsS] at hz ⊢
  by_cases h1 : (R p 0).2.1 = p
  ·rw [if_pos h1] at hz
   have := h.more p hp hz
   omega
  ·rw [if_neg h1] at hz ⊢
   have e0 : (R p 0).2.2 = 0 := by
    by_cases he : (R p 0).2.2 = 0
    ·exact he
    ·rw [ls_stuck h.toRd n _ _ he] at hz; exact absurd hz he
   rw [e0] at hz ⊢
   obtain ⟨i1, i2⟩ := ls_ok h n (R p 0).2.1 q.2 hz
   refine ⟨by rw [List.length_cons, i1], ?_⟩
   rw [i2, h.ok p hp e0, List.flatMap_cons, List.append_assoc]
theorem rd_li (hb : C.isBytes zs) (h : Rd1 zs R f) : Rd1 zs (liS zs R) (encL f) := by
 have hc := rd_ct hb
 have hz : ∀ p, p <= zs.length -> (liS zs R p 0).2.2 = 0 -> (ctS zs p 0).2.2 = 0 := fun p hp hq => by
  by_cases he : (ctS zs p 0).2.2 = 0
  ·exact he
  ·rw [liS, ls_stuck h.toRd _ _ _ he] at hq; exact absurd hq he
 refine ⟨⟨fun p e he => ?_, fun p e hp => ?_, fun p hp hq => ?_⟩, fun p hp hq => ?_⟩
 ·have q := hc.stuck p e he
  rw [liS, q, ls_stuck h.toRd _ _ _ he]
 ·have q := hc.mono p e hp
  have := ls_mono h.toRd (ctS zs p e).1 (ctS zs p e).2.1 (ctS zs p e).2.2 q.2
  rw [liS]; exact ⟨Nat.le_trans q.1 this.1, this.2⟩
 ·have e0 := hz p hp hq
  have q := hc.mono p 0 hp
  rw [liS, e0] at hq ⊢
  obtain ⟨i1, i2⟩ := ls_ok h _ _ q.2 hq
  rw [i2, hc.ok p hp e0, encL, i1, List.append_assoc]
 ·have e0 := hz p hp hq
  have q := hc.mono p 0 hp
  have q1 := hc.more p hp e0
  have := ls_mono h.toRd (ctS zs p 0).1 (ctS zs p 0).2.1 (ctS zs p 0).2.2 q.2
  rw [liS]; omega
theorem rd_bd {β : Type} {S : Nat -> Int -> β × Nat × Int} {g : β -> List Int} (h : Rd1 zs R f) (k : Rd1 zs S g) : Rd1 zs (bdS R S) (fun c => f c.1 ++ g c.2) := by
 have hz : ∀ p, (bdS R S p 0).2.2 = 0 -> (R p 0).2.2 = 0 := fun p hq => k.zero hq
 refine ⟨⟨fun p e he => ?_, fun p e hp => ?_, fun p hp hq => ?_⟩, fun p hp hq => ?_⟩
 ·have q := h.stuck p e he
  show (S (R p e).2.1 (R p e).2.2).2 = _
  rw [q]; exact k.stuck p e he
 ·have q := h.mono p e hp
  have := k.mono (R p e).2.1 (R p e).2.2 q.2
  exact ⟨Nat.le_trans q.1 this.1, this.2⟩
 ·have e0 := hz p hq
  have q := h.mono p 0 hp
  show zs.take (S (R p 0).2.1 (R p 0).2.2).2.1 = zs.take p ++ (f (R p 0).1 ++ g (S (R p 0).2.1 (R p 0).2.2).1)
  have hq' : (S (R p 0).2.1 (R p 0).2.2).2.2 = 0 := hq
  rw [e0] at hq' ⊢
  rw [k.ok _ q.2 hq', h.ok p hp e0, List.append_assoc]
 ·have e0 := hz p hq
  have q := h.mono p 0 hp
  have q1 := h.more p hp e0
  have := k.mono (R p 0).2.1 (R p 0).2.2 q.2
  show p < (S (R p 0).2.1 (R p 0).2.2).2.1
  omega
end
def encPc (c : Int × List (Int × Int) × Int) : List Int := encI c.1 ++ (encL encY c.2.1 ++ C.enc 10 (C.foldS c.2.2))
def encVc (c : Int × List Int) : List Int := encI c.1 ++ encL encI c.2
def encGc (c : GC) : List Int := encL encS c.1 ++ (encL encS c.2.1 ++ (encI c.2.2.1 ++ (encL encPc c.2.2.2.1 ++ encL encVc c.2.2.2.2)))
theorem rd_pr {zs : List Int} (hb : C.isBytes zs) : Rd1 zs (prS zs) encPc := rd_bd (rd_in hb) (rd_bd (rd_li hb (rd_sy hb)) (rd_sg hb))
theorem rd_lv {zs : List Int} (hb : C.isBytes zs) : Rd1 zs (lvS zs) encVc := rd_bd (rd_in hb) (rd_li hb (rd_in hb))
theorem rd_gr {zs : List Int} (hb : C.isBytes zs) : Rd1 zs (grS zs) encGc := rd_bd (rd_li hb (rd_tx hb)) (rd_bd (rd_li hb (rd_tx hb)) (rd_bd (rd_in hb) (rd_bd (rd_li hb (rd_pr hb)) (rd_li hb (rd_lv hb)))))
def GV.core (g : GV) : GC := (g.ts, g.ns, g.start, g.ps.map PV.core, g.ls.map LV.core)
theorem encL_map {α β : Type} (f : β -> List Int) (c : α -> β) (l : List α) : encL f (l.map c) = encL (fun a => f (c a)) l := by
 unfold encL
 rw [List.length_map, List.flatMap_map]
theorem encG_core (g : GV) : encGc g.core = encG g := by
 show encL encS g.ts ++ (encL encS g.ns ++ (encI g.start ++ (encL encPc (g.ps.map PV.core) ++ encL encVc (g.ls.map LV.core)))) = _
 rw [encL_map, encL_map]
 rfl
theorem same_of_core {g x : GV} (h : x.core = g.core) : SameG g x := by
 simp only [GV.core, Prod.mk.injEq] at h
 exact ⟨h.1, h.2.1, h.2.2.1, h.2.2.2.1, h.2.2.2.2⟩
end Go.Proofs.YthgnhdnmcjpdmaaGreatDoor
