import Derived.Test.YtobhemaikomdaaaGreatDoorPBBaseToGRow
import Derived.Test.YtobhemaikomdaaaGreatDoorPPlainToWText
namespace Go.Proofs.YtobhemaikomdaaaGreatDoor
set_option linter.unusedVariables false
open Go.RowKit
structure EW (w0 : World) (p q : Nat) (v : Value) (xs : List Int) (wr : World) : Prop where
 inv : C.WInv wr p q v xs 0
 bel : Below w0.heap.size w0 wr
 lq : w0.heap.size <= q
 lv : ∀ k, v.ownBlock = some k -> w0.heap.size <= k
section
variable {w0 wr w' : World} {p q : Nat} {v v' : Value} {xs xs' : List Int}
theorem EW.step (h : EW w0 p q v xs wr) (hw : C.WInv w' p q v' xs' 0) (hg : C.WGrew wr w' q v v') : EW w0 p q v' xs' w' := by
 have hs := h.bel.size
 refine ⟨hw, h.bel.trans ⟨hg.os, hg.tape, hg.output, hg.size, fun k hk => hg.block k (by omega) (by have := h.lq; omega) (fun e => by have := h.lv k e.symm; omega)⟩, h.lq, fun k hk => ?_⟩
 rcases hg.moved with e | ⟨k', e, hk'⟩
 ·exact h.lv k (e ▸ hk)
 ·rw [hk] at e; have := Option.some.inj e; omega
theorem EW.later (h : EW w0 p q v xs wr) (hb : Below wr.heap.size wr w') : EW w0 p q v xs w' :=
 ⟨⟨(hb.block p (lt_of_block h.inv.hp)).trans h.inv.hp, (hb.block q (lt_of_block h.inv.hq)).trans h.inv.hq, h.inv.own.later hb⟩, h.bel.trans (hb.mono h.bel.size), h.lq, h.lv⟩
theorem own_neF {w : World} {v : Value} {xs : List Int} (h : C.Own w v xs) {b : Nat} {Cc : Array Value} {t : TypeId} {fz : Nat × Nat} (hb : w.heap[b]? = some (.cells Cc t fz)) (ht : t ≠ 5) : some b ≠ v.ownBlock := by
 intro e
 rcases h.2.2 with ⟨rfl, _⟩ | ⟨g, cap, cur, rfl, _, hg, _⟩
 ·simp [Value.ownBlock] at e
 ·simp [Value.ownBlock] at e
  subst e
  rw [hb] at hg
  simp at hg
  exact ht hg.2.1
def EF (w w' : World) : Prop := w.heap.size <= w'.heap.size /\ ∀ (k : Nat) (C : Array Value) (t : TypeId) {fz : Nat × Nat}, w.heap[k]? = some (.cells C t fz) -> t ≠ 110 -> t ≠ 5 -> w'.heap[k]? = w.heap[k]?
theorem EF.refl (w : World) : EF w w := ⟨Nat.le_refl _, fun _ _ _ _ _ _ _ => rfl⟩
theorem EF.ofBelow {w w' : World} (h : Below w.heap.size w w') : EF w w' := ⟨h.size, fun k _ _ _ hk _ _ => h.block k (lt_of_block hk)⟩
theorem EF.trans {a b c : World} (h : EF a b) (k : EF b c) : EF a c := ⟨Nat.le_trans h.1 k.1, fun z C t _ hz h1 h2 => (k.2 z C t ((h.2 z C t hz h1 h2).trans hz) h1 h2).trans (h.2 z C t hz h1 h2)⟩
theorem EW.frame (h : EW w0 p q v xs wr) (hg : C.WGrew wr w' q v v') : EF wr w' := ⟨hg.size, fun k Cc t _ hk h1 h2 => hg.block k (lt_of_block hk) (fun e => by have := h.inv.hq; rw [<- e, hk] at this; simp at this; exact h1 this.2.1) (own_neF h.inv.own hk h2)⟩
abbrev EE (w0 wr : World) (p q : Nat) (xs : List Int) (e : Ending) (w' : World) : Prop := e = .returned (.tuple #[]) /\ ∃ v', EW w0 p q v' xs w' /\ EF wr w'
theorem eint (h : EW w0 p q v xs wr) (n : Int) (h0 : 0 <= n) (h1 : n <= 9223372036854775807) (hl : xs.length <= 1000000000) : Calls Tryz.prog 60 #[.pointer (some ⟨p, 0, none⟩), .int .i64 n] wr (EE w0 wr p q (xs ++ C.enc 10 n)) :=
 (C.wint_pos n h.inv h0 h1 (by omega) (xs ++ C.enc 10 n) (if_pos rfl).symm).mono fun _ _ ⟨he, v', h1, h2⟩ => ⟨he, v', h.step h1 h2, h.frame h2⟩
theorem etext (h : EW w0 p q v xs wr) (s : ByteArray) (hs : s.size <= 1000000000) (hl : xs.length <= 1000000000) : Calls Tryz.prog 62 #[.pointer (some ⟨p, 0, none⟩), .string s] wr (EE w0 wr p q (xs ++ (C.enc 10 s.size ++ C.strBytes s))) :=
 (C.wtext s h.inv (by omega) (xs ++ (C.enc 10 s.size ++ C.strBytes s)) (by rw [if_pos rfl, List.append_assoc])).mono fun _ _ ⟨he, v', h1, h2⟩ => ⟨he, v', h.step h1 h2, h.frame h2⟩
theorem esigned (h : EW w0 p q v xs wr) (n : Int) (h0 : -9223372036854775808 <= n) (h1 : n <= 9223372036854775807) (hl : xs.length <= 1000000000) : Calls Tryz.prog 61 #[.pointer (some ⟨p, 0, none⟩), .int .i64 n] wr (EE w0 wr p q (xs ++ C.enc 10 (C.foldS n))) :=
 (C.wsigned n h.inv h0 h1 (by omega) (xs ++ C.enc 10 (C.foldS n)) (if_pos rfl).symm).mono fun _ _ ⟨he, v', h1, h2⟩ => ⟨he, v', h.step h1 h2, h.frame h2⟩
end
def encL {α : Type} (f : α -> List Int) (l : List α) : List Int := C.enc 10 l.length ++ l.flatMap f
def encS (s : ByteArray) : List Int := C.enc 10 s.size ++ C.strBytes s
def encI (n : Int) : List Int := C.enc 10 n
end Go.Proofs.YtobhemaikomdaaaGreatDoor
namespace Go.Proofs.YtobhemaikomdaaaGreatDoor
set_option linter.unusedVariables false
open Go.RowKit
def encY (s : Int × Int) : List Int := C.enc 10 (2 * s.2 + if s.1 = 2 then 1 else 0)
def encP (p : PV) : List Int := C.enc 10 p.left ++ (encL encY p.right ++ C.enc 10 (C.foldS p.prec))
end Go.Proofs.YtobhemaikomdaaaGreatDoor
namespace Go.Proofs.YtobhemaikomdaaaGreatDoor.C
set_option linter.unusedVariables false
open Go.RowKit
structure RInv (w : World) (r : Nat) (ao : Option Addr) (N cap : Nat) (xs : List Int) (pos : Nat) (err : Int) : Prop where
 hr : w.heap[r]? = some (.cells #[.bool true, .slice ao N cap, .int .i64 pos, .int .i64 err] 127 (0, 0))
 len : N = xs.length
 row : RowAt w ao xs
 nil : ao = none -> cap = 0
 cap : xs.length <= cap
 pos : pos <= xs.length
 lim : xs.length <= 140737488355328
 shape : ao = none ∨ ∃ g, ao = some ⟨g, 0, none⟩
structure ROnly (w w' : World) (r : Nat) : Prop where
 os : w'.os = w.os
 tape : w'.tape = w.tape
 output : w'.output = w.output
 size : w.heap.size <= w'.heap.size
 block : ∀ k, k < w.heap.size -> k ≠ r -> w'.heap[k]? = w.heap[k]?
theorem ROnly.refl (w : World) (r : Nat) : ROnly w w r := ⟨rfl, rfl, rfl, Nat.le_refl _, fun _ _ _ => rfl⟩
theorem ROnly.trans {a b c : World} {r : Nat} (h : ROnly a b r) (k : ROnly b c r) : ROnly a c r :=
 ⟨k.os.trans h.os, k.tape.trans h.tape, k.output.trans h.output, Nat.le_trans h.size k.size, fun i hi hr => (k.block i (Nat.lt_of_lt_of_le hi h.size) hr).trans (h.block i hi hr)⟩
theorem ROnly.ofBelow {w w' : World} {r : Nat} (h : Below w.heap.size w w') : ROnly w w' r := ⟨h.os, h.tape, h.output, h.size, fun k hk _ => h.block k hk⟩
theorem ROnly.below {w w' : World} {r B : Nat} (h : ROnly w w' r) (hB : B <= r) (hw : B <= w.heap.size) : Below B w w' := ⟨h.os, h.tape, h.output, h.size, fun k hk => h.block k (by omega) (by omega)⟩
theorem ROnly.set (w : World) (r o : Nat) (u : Value) : ROnly w (w.setCell ⟨r, o, none⟩ u) r := ⟨rfl, rfl, rfl, by simp [World.setCell], fun k _ hk => Below.heap_setCell _ _ _ _ hk⟩
section
variable {w : World} {r : Nat} {ao : Option Addr} {N cap : Nat} {xs : List Int} {pos : Nat} {err : Int}
theorem RInv.c0 (h : RInv w r ao N cap xs pos err) : w.cell? ⟨r, 0, none⟩ = some (.bool true) := by simp [World.cell?, h.hr]
theorem RInv.c1 (h : RInv w r ao N cap xs pos err) : w.cell? ⟨r, 1, none⟩ = some (.slice ao N cap) := by simp [World.cell?, h.hr]
theorem RInv.c2 (h : RInv w r ao N cap xs pos err) : w.cell? ⟨r, 2, none⟩ = some (.int .i64 pos) := by simp [World.cell?, h.hr]
theorem RInv.c3 (h : RInv w r ao N cap xs pos err) : w.cell? ⟨r, 3, none⟩ = some (.int .i64 err) := by simp [World.cell?, h.hr]
theorem RInv.f2 (h : RInv w r ao N cap xs pos err) : w.frozen? ⟨r, 2, none⟩ = false := by simp [World.frozen?, h.hr]
theorem RInv.f3 (h : RInv w r ao N cap xs pos err) : w.frozen? ⟨r, 3, none⟩ = false := by simp [World.frozen?, h.hr]
theorem RInv.lt (h : RInv w r ao N cap xs pos err) : r < w.heap.size := lt_of_block h.hr
theorem RInv.apart (h : RInv w r ao N cap xs pos err) {b off : Nat} (e : ao = some ⟨b, off, none⟩) (hne : xs ≠ []) : b ≠ r := by
 intro hb
 subst hb
 obtain ⟨b', off', he, hc⟩ := h.row.2 hne
 rw [e] at he
 simp only [Option.some.injEq, Addr.mk.injEq, and_true] at he
 obtain ⟨rfl, rfl⟩ := he
 have h0 := hc 0 (List.length_pos_iff.2 hne)
 simp only [World.cell?, h.hr, Nat.add_zero] at h0
 match off, h0 with
 | 0, h0 => simp at h0
 | 1, h0 => simp at h0
 | 2, h0 => simp at h0
 | 3, h0 => simp at h0
 | n + 4, h0 => simp at h0
theorem RInv.rowOnly (h : RInv w r ao N cap xs pos err) {w' : World} (hb : ∀ k, k < w.heap.size -> k ≠ r -> w'.heap[k]? = w.heap[k]?) : RowAt w' ao xs := by
 refine ⟨h.row.1, fun hne => ?_⟩
 obtain ⟨b, off, he, hc⟩ := h.row.2 hne
 refine ⟨b, off, he, fun i hi => ?_⟩
 have hlt := World.block_lt_of_cell? w _ (hc i hi)
 exact (World.cell?_of_block (a := ⟨b, off + i, none⟩) (hb b hlt (h.apart he hne))).trans (hc i hi)
theorem RInv.kept (h : RInv w r ao N cap xs pos err) {w' : World} (hr : w'.heap[r]? = w.heap[r]?) (hb : ∀ k, k < w.heap.size -> k ≠ r -> w'.heap[k]? = w.heap[k]?) : RInv w' r ao N cap xs pos err :=
 ⟨hr.trans h.hr, h.len, h.rowOnly hb, h.nil, h.cap, h.pos, h.lim, h.shape⟩
theorem RInv.later (h : RInv w r ao N cap xs pos err) {w' : World} (hb : Below w.heap.size w w') : RInv w' r ao N cap xs pos err := h.kept (hb.block r h.lt) (fun k hk _ => hb.block k hk)
theorem RInv.drewN (h : RInv w r ao N cap xs pos err) (n : Nat) : RInv (w.drewN n) r ao N cap xs pos err := h.later (below_drewN (Below.refl _ _) n)
theorem RInv.setErr (h : RInv w r ao N cap xs pos err) (e : Int) : RInv (w.setCell ⟨r, 3, none⟩ (.int .i64 e)) r ao N cap xs pos e :=
 ⟨by rw [heap_set h.hr]; rfl, h.len, h.rowOnly (fun k _ hk => Below.heap_setCell _ _ _ _ hk), h.nil, h.cap, h.pos, h.lim, h.shape⟩
theorem RInv.setPos (h : RInv w r ao N cap xs pos err) (q : Nat) (hq : q <= xs.length) : RInv (w.setCell ⟨r, 2, none⟩ (.int .i64 q)) r ao N cap xs q err :=
 ⟨by rw [heap_set h.hr]; rfl, h.len, h.rowOnly (fun k _ hk => Below.heap_setCell _ _ _ _ hk), h.nil, h.cap, hq, h.lim, h.shape⟩
theorem rready_any (h : RInv w r ao N cap xs pos err) : Calls Tryz.prog 129 #[.pointer (some ⟨r, 0, none⟩)] w fun e w' => e = .returned (.bool (err == 0)) /\ w = w' := by
 have h0 := h.c0
 have h3 := h.c3
 go_enter Tryz.func129, Tryz.ntmps129
 go_wp2
 go_ret
 exact ⟨rfl, rfl⟩
theorem rleft_any (h : RInv w r ao N cap xs pos err) : Calls Tryz.prog 78 #[.pointer (some ⟨r, 0, none⟩)] w fun e w' => e = .returned (.int .i64 ((N : Int) - pos)) /\ ∃ n, w' = w.drewN n := by
 have h1 := h.c1
 have h2 := h.c2
 have hp := h.pos
 have hl := h.lim
 have hlen := h.len
 have hpN : pos <= N := by omega
 have hN : N <= 140737488355328 := by omega
 clear hlen hp hl
 go_enter Tryz.func78, Tryz.ntmps78
 go_wp2
 go_quiet (fail)
 go_wp2
 go_ret
 exact ⟨rfl, _, rfl⟩
end
theorem rfail_ok {w : World} {r : Nat} {ao : Option Addr} {N cap : Nat} {xs : List Int} {pos : Nat} (e : Int) (h : RInv w r ao N cap xs pos 0) : Calls Tryz.prog 101 #[.pointer (some ⟨r, 0, none⟩), .int .i64 e] w fun x w' => x = .returned (.tuple #[]) /\ w' = w.setCell ⟨r, 3, none⟩ (.int .i64 e) := by
 have h3 := h.c3
 have hf := h.f3
 go_enter Tryz.func101, Tryz.ntmps101
 go_wp2_with (go_at_call 129; refine (rready_any h).mono ?_; rintro e w' ⟨rfl, rfl⟩)
 go_end0
 exact ⟨rfl, rfl⟩
theorem rfail_no {w : World} {r : Nat} {ao : Option Addr} {N cap : Nat} {xs : List Int} {pos : Nat} {err : Int} (e : Int) (h : RInv w r ao N cap xs pos err) (hne : (err == 0) = false) : Calls Tryz.prog 101 #[.pointer (some ⟨r, 0, none⟩), .int .i64 e] w fun x w' => x = .returned (.tuple #[]) /\ w = w' := by
 go_enter Tryz.func101, Tryz.ntmps101
 go_wp2_with (go_at_call 129; refine (rready_any h).mono ?_; rintro e w' ⟨rfl, rfl⟩)
 go_end0
 exact ⟨rfl, rfl⟩
theorem rmove_none {w : World} {r : Nat} : Calls Tryz.prog 106 #[.pointer (some ⟨r, 0, none⟩), .int .i64 0] w fun x w' => x = .returned (.tuple #[]) /\ w = w' := by
 go_enter Tryz.func106, Tryz.ntmps106
 go_wp2
 go_end0
 exact ⟨rfl, rfl⟩
theorem rmove_some {w : World} {r : Nat} {ao : Option Addr} {N cap : Nat} {xs : List Int} {pos : Nat} {err : Int} (s : Nat) (h : RInv w r ao N cap xs pos err) (h0 : 0 < s) (h1 : s <= 140737488355328) : Calls Tryz.prog 106 #[.pointer (some ⟨r, 0, none⟩), .int .i64 s] w fun x w' => x = .returned (.tuple #[]) /\ w' = w.setCell ⟨r, 2, none⟩ (.int .i64 ((pos + s : Nat) : Int)) := by
 have h2 := h.c2
 have hf := h.f2
 have hp : pos <= 140737488355328 := Nat.le_trans h.pos h.lim
 go_enter Tryz.func106, Tryz.ntmps106
 go_wp2
 go_end0
 exact ⟨rfl, by simp⟩
theorem newreader_none (w : World) : Calls Tryz.prog 36 #[.slice none 0 0] w fun e w' => e = .returned (.pointer (some ⟨w.heap.size, 0, none⟩)) /\ RInv w' w.heap.size none 0 0 [] 0 0 /\ Below w.heap.size w w' := by
 go_enter Tryz.func36, Tryz.ntmps36
 go_wp2_with (go_at_call 64; refine (clone_nil w).mono ?_; rintro e w' ⟨rfl, rfl⟩)
 go_ret
 exact ⟨rfl, ⟨heap_alloc_new _ _, rfl, RowAt.nil _ _, fun _ => rfl, Nat.le_refl _, Nat.le_refl _, by simp, .inl rfl⟩, below_alloc _ _⟩
end Go.Proofs.YtobhemaikomdaaaGreatDoor.C
namespace Go.Proofs.YtobhemaikomdaaaGreatDoor.C
set_option linter.unusedVariables false
open Go.RowKit
theorem parseGo_enc : ∀ (f i : Nat) (acc m : Int) (r : List Int), f + i = 9 -> 0 <= acc -> 0 <= m -> acc + m * 128 ^ i < 18446744073709551616 -> (0 < i -> m ≠ 0) ->
  parseGo i acc (enc (f + 1) m ++ r) = (acc + m * 128 ^ i, (i : Int) + (enc (f + 1) m).length, 0) := by
 intro f
 induction f with
 | zero =>
  intro i acc m r hfi ha hm hlt hne
  obtain rfl : i = 9 := by omega
  have h9 : (128 : Int) ^ 9 = 9223372036854775808 := by decide
  rw [h9] at hlt
  have hm1 : m = 1 := by have := hne (by omega); omega
  subst hm1
  rw [enc_last 0 1 (by omega)]
  simp [parseGo]
 | succ f ih =>
  intro i acc m r hfi ha hm hlt hne
  have hi9 : ¬ (i = 9 /\ m % 128 + 128 ≠ 1) := fun h => by omega
  by_cases hbig : 128 <= m
  ·rw [enc_step (f + 1) m hbig]
   rw [List.cons_append, parseGo, if_neg hi9, if_pos (by omega)]
   have e1 : (m % 128 + 128) % 128 = m % 128 := by omega
   rw [e1]
   have hp := pow_pos' i
   have key : acc + m % 128 * 128 ^ i + m / 128 * 128 ^ (i + 1) = acc + m * 128 ^ i := by
    have e2 : m * 128 ^ i = (m % 128 + 128 * (m / 128)) * 128 ^ i := by rw [Int.emod_add_mul_ediv]
    rw [e2, Int.pow_succ, Int.add_mul]
    have e3 : m / 128 * (128 ^ i * 128) = 128 * (m / 128) * 128 ^ i := by
     rw [Int.mul_comm (128 ^ i) 128, <- Int.mul_assoc, Int.mul_comm (m / 128) 128]
    rw [e3, Int.add_assoc]
   have hnn : 0 <= m % 128 * 128 ^ i := Int.mul_nonneg (by omega) (by omega)
   have := ih (i + 1) (acc + m % 128 * 128 ^ i) (m / 128) r (by omega) (by omega) (by omega) (by rw [key]; exact hlt) (fun _ => by omega)
   rw [this, key]
   simp only [Prod.mk.injEq, List.length_cons, true_and, and_true]
   omega
  ·rw [enc_last (f + 1) m (by omega)]
   rw [List.cons_append, parseGo, if_neg (fun h => by omega), if_neg hbig, if_neg (fun h => hne h.2 h.1)]
   have e1 : m % 128 = m := by omega
   simp [e1]
theorem parse_enc (n : Int) (r : List Int) (h0 : 0 <= n) (h1 : n < 18446744073709551616) : parse (enc 10 n ++ r) = (n, ((enc 10 n).length : Int), 0) := by
 have := parseGo_enc 9 0 0 n r rfl (by omega) h0 (by simpa using h1) (fun h => by omega)
 simpa [parse] using this
theorem enc_parseGo (xs : List Int) (hb : isBytes xs) : ∀ (i : Nat) (acc : Int), i <= 9 -> ∀ n s, parseGo i acc xs = (n, s, 0) ->
  ∃ m : Int, 0 <= m /\ (0 < i -> m ≠ 0) /\ n = acc + m * 128 ^ i /\ ∃ r, xs = enc (9 - i + 1) m ++ r /\ s = (i : Int) + (enc (9 - i + 1) m).length := by
 induction xs with
 | nil => intro i acc _ n s h; simp [parseGo] at h
 | cons c r ih =>
  intro i acc hi n s h
  have hc := hb c (by simp)
  rw [parseGo] at h
  by_cases h9 : i = 9 /\ c ≠ 1
  ·rw [if_pos h9] at h; simp at h
  ·rw [if_neg h9] at h
   by_cases hbig : 128 <= c
   ·rw [if_pos hbig] at h
    have hi9 : i ≠ 9 := fun q => h9 ⟨q, by omega⟩
    obtain ⟨m, hm0, hmne, hn, r', hr, hs⟩ := ih (fun x hx => hb x (by simp [hx])) (i + 1) _ (by omega) n s h
    have hmne' := hmne (by omega)
    refine ⟨m * 128 + c % 128, by omega, fun _ => by omega, ?_, r', ?_, ?_⟩
    ·rw [hn, Int.pow_succ, Int.add_mul, Int.add_assoc, Int.add_comm (c % 128 * 128 ^ i), Int.mul_assoc, Int.mul_comm (128 ^ i) 128]
    ·have e : 9 - i + 1 = (9 - (i + 1) + 1) + 1 := by omega
     rw [e, enc_step _ _ (by omega), hr]
     have e1 : (m * 128 + c % 128) % 128 + 128 = c := by omega
     have e2 : (m * 128 + c % 128) / 128 = m := by omega
     rw [e1, e2]; rfl
    ·have e : 9 - i + 1 = (9 - (i + 1) + 1) + 1 := by omega
     rw [e, enc_step _ _ (by omega), hs]
     have e2 : (m * 128 + c % 128) / 128 = m := by omega
     rw [e2]
     simp only [List.length_cons]
     omega
   ·rw [if_neg hbig] at h
    by_cases hz : c = 0 /\ 0 < i
    ·rw [if_pos hz] at h; simp at h
    ·rw [if_neg hz] at h
     simp only [Prod.mk.injEq, and_true] at h
     refine ⟨c, hc.1, fun hi0 e => hz ⟨e, hi0⟩, ?_, r, ?_, ?_⟩
     ·rw [<- h.1, show c % 128 = c by omega]
     ·rw [enc_last _ _ (by omega)]; rfl
     ·rw [enc_last _ _ (by omega), <- h.2]; rfl
theorem parse_back (xs : List Int) (hb : isBytes xs) (n s : Int) (h : parse xs = (n, s, 0)) : 0 <= n /\ n < 18446744073709551616 /\ ∃ r, xs = enc 10 n ++ r /\ s = (enc 10 n).length := by
 obtain ⟨_, hf⟩ := parse_facts xs hb n s 0 h
 obtain ⟨m, hm0, _, hn, r, hr, hs⟩ := enc_parseGo xs hb 0 0 (by omega) n s h
 have : n = m := by simpa using hn
 subst this
 exact ⟨(hf rfl).2.2.2.1, (hf rfl).2.2.2.2, r, by simpa using hr, by simpa using hs⟩
theorem join_sum (s : Int) (h0 : 0 <= s) (h1 : s <= 4294967295) : joinSum (sumBytes s) = s := by
 simp only [joinSum, sumBytes, List.foldl_cons, List.foldl_nil]
 omega
theorem sum_join (a b c d : Int) (h : isBytes [a, b, c, d]) : sumBytes (joinSum [a, b, c, d]) = [a, b, c, d] := by
 have ha := h a (by simp)
 have hb := h b (by simp)
 have hc := h c (by simp)
 have hd := h d (by simp)
 simp only [joinSum, sumBytes, List.foldl_cons, List.foldl_nil, List.cons.injEq, and_true]
 omega
theorem check_self (k : Int) (r : List Int) : checkHead k (headBytes k ++ r) = (0, 0) := by simp [checkHead, headBytes, chk]
theorem open_frame (k : Int) (xs : List Int) (hl : xs.length <= 16777216) : openS k (frame k xs) = (xs, 0, 0) := by
 have hf : frame k xs = headBytes k ++ (enc 10 xs.length ++ (xs ++ sumBytes (adler (lead k xs)))) := by simp [frame, lead]
 have hd : (frame k xs).drop 4 = enc 10 xs.length ++ (xs ++ sumBytes (adler (lead k xs))) := by rw [hf]; rfl
 have hp := parse_enc (xs.length : Int) (xs ++ sumBytes (adler (lead k xs))) (by omega) (by omega)
 have hc := check_self k (enc 10 xs.length ++ (xs ++ sumBytes (adler (lead k xs))))
 have hlen : (frame k xs).length = 4 + (enc 10 (xs.length : Int)).length + xs.length + 4 := by rw [hf]; simp [headBytes, sumBytes]; omega
 have hll : (lead k xs).length = 4 + (enc 10 (xs.length : Int)).length + xs.length := by simp [lead, headBytes]; omega
 have hT : (4 + ((enc 10 (xs.length : Int)).length : Int) + (xs.length : Int)).toNat = 4 + (enc 10 (xs.length : Int)).length + xs.length := by omega
 have hF : (4 + ((enc 10 (xs.length : Int)).length : Int)).toNat = 4 + (enc 10 (xs.length : Int)).length := by omega
 have htake : (frame k xs).take (4 + (enc 10 (xs.length : Int)).length + xs.length) = lead k xs := by
  rw [<- hll]; unfold frame; exact List.take_left
 have hdrop : (frame k xs).drop (4 + (enc 10 (xs.length : Int)).length + xs.length) = sumBytes (adler (lead k xs)) := by
  rw [<- hll]; unfold frame; exact List.drop_left
 have hbody : (lead k xs).drop (4 + (enc 10 (xs.length : Int)).length) = xs := by
  have e : 4 + (enc 10 (xs.length : Int)).length = (headBytes k ++ enc 10 (xs.length : Int)).length := by simp [headBytes]; omega
  rw [e]; unfold lead; exact List.drop_left
 have hs := join_sum (adler (lead k xs)) (adler_bd _).1 (adler_bd _).2
 rw [<- hf] at hc
 rw [openS, hc, if_neg (by simp), hd, hp, if_neg (by simp), if_neg (by simp), if_neg (by simp; omega), if_neg (by rw [hlen]; simp), if_neg (by rw [hlen]; simp)]
 simp only [hT, hF]
 rw [htake, hdrop, if_neg (by rw [hs]; simp), hbody]
theorem four {l : List Int} (h : l.length = 4) : ∃ a b c d, l = [a, b, c, d] := by
 match l, h with
 | [a, b, c, d], _ => exact ⟨a, b, c, d, rfl⟩
theorem frame_open (k : Int) (xs : List Int) (hb : isBytes xs) (b : List Int) (at' : Int) (h : openS k xs = (b, 0, at')) : frame k b = xs /\ b.length <= 16777216 /\ isBytes b /\ at' = 0 := by
 rw [openS] at h
 by_cases h1 : (checkHead k xs).1 = 0
 ·rw [if_neg (by simp [h1])] at h
  obtain ⟨rest, hx, _⟩ := chk_none k xs h1
  have hd : xs.drop 4 = rest := by rw [hx]; rfl
  obtain ⟨n, s, ep, hp⟩ : ∃ n s e, parse (xs.drop 4) = (n, s, e) := ⟨_, _, _, rfl⟩
  rw [hp] at h
  by_cases h2 : ep = 11
  ·rw [if_pos h2] at h; simp at h
  ·rw [if_neg h2] at h
   by_cases h3 : ep = 0
   ·subst h3
    rw [if_neg (by simp)] at h
    by_cases h4 : 16777216 < n
    ·rw [if_pos h4] at h; simp at h
    ·rw [if_neg h4] at h
     by_cases h5 : (xs.length : Int) < 4 + s + n + 4
     ·rw [if_pos h5] at h; simp at h
     ·rw [if_neg h5] at h
      by_cases h6 : 4 + s + n + 4 < (xs.length : Int)
      ·rw [if_pos h6] at h; simp at h
      ·rw [if_neg h6] at h
       by_cases h7 : joinSum (xs.drop (4 + s + n).toNat) ≠ adler (xs.take (4 + s + n).toNat)
       ·rw [if_pos h7] at h; simp at h
       ·rw [if_neg h7] at h
        simp only [Prod.mk.injEq, true_and] at h
        obtain ⟨hbody, hat⟩ := h
        have h7' := Classical.not_not.1 h7
        have hbr : isBytes (xs.drop 4) := isBytes_drop hb 4
        obtain ⟨hn0, hn1, r, hr, hs⟩ := parse_back (xs.drop 4) hbr n s hp
        obtain ⟨m, rfl⟩ := Int.eq_ofNat_of_zero_le hn0
        subst hs
        have hT : (4 + ((enc 10 (m : Int)).length : Int) + (m : Int)).toNat = 4 + (enc 10 (m : Int)).length + m := by omega
        have hF : (4 + ((enc 10 (m : Int)).length : Int)).toNat = 4 + (enc 10 (m : Int)).length := by omega
        rw [hT] at h7' hbody
        rw [hF] at hbody
        have hxs : xs = headBytes k ++ (enc 10 (m : Int) ++ r) := by rw [hx, <- hr, hd]
        have hrl : r.length = m + 4 := by
         have := congrArg List.length hxs
         simp [headBytes] at this
         omega
        have e0 : (headBytes k ++ enc 10 (m : Int)).length = 4 + (enc 10 (m : Int)).length := by simp [headBytes]; omega
        have hxs' : xs = headBytes k ++ enc 10 (m : Int) ++ r := by rw [hxs, List.append_assoc]
        have htk : xs.take (4 + (enc 10 (m : Int)).length + m) = headBytes k ++ enc 10 (m : Int) ++ r.take m := by
         rw [hxs', <- e0]; exact List.take_length_add_append _
        have hdr : xs.drop (4 + (enc 10 (m : Int)).length + m) = r.drop m := by
         rw [hxs', <- e0]; exact List.drop_length_add_append _
        rw [htk, <- e0, List.drop_left] at hbody
        rw [htk, hdr] at h7'
        have hml : (r.take m).length = m := by simp; omega
        obtain ⟨q1, q2, q3, q4, hq⟩ := four (l := r.drop m) (by simp; omega)
        have hbr' : isBytes r := fun x hx => hb x (by rw [hxs]; simp [hx])
        have hsj := sum_join q1 q2 q3 q4 (hq ▸ isBytes_drop hbr' m)
        rw [<- hq, h7'] at hsj
        have hlead : lead k b = headBytes k ++ enc 10 (m : Int) ++ r.take m := by
         rw [<- hbody]; unfold lead; rw [hml]
        refine ⟨?_, by rw [<- hbody, hml]; omega, by rw [<- hbody]; exact isBytes_take hbr' m, hat.symm⟩
        unfold frame
        rw [hlead, hsj, List.append_assoc _ (r.take m), List.take_append_drop, <- hxs']
   ·rw [if_pos h3] at h
    simp only [Prod.mk.injEq] at h
    exact absurd h.2.1 h3
 ·rw [if_pos h1] at h
  simp only [Prod.mk.injEq] at h
  exact absurd h.2.1 h1
end Go.Proofs.YtobhemaikomdaaaGreatDoor.C
namespace Go.Proofs.YtobhemaikomdaaaGreatDoor.C
set_option linter.unusedVariables false
open Go.RowKit
theorem slice_from {w0 : World} {r : Nat} {ao : Option Addr} {N cap : Nat} {xs : List Int} {pos : Nat} {err : Int} (h : RInv w0 r ao N cap xs pos err) :
  ∃ ao' c', (∀ w, (Instr.slice 46 (.slice ao N cap) (some (.int .i64 pos)) none none).run Tryz.prog w = .ok (.slice ao' (N - pos) c') w) /\ ∀ w, RowAt w ao xs -> RowAt w ao' (xs.drop pos) := by
 have hN := h.len
 have hp := h.pos
 have hc := h.cap
 obtain ⟨i0, hi, _, hz1, _⟩ := info_parts info5
 have hu : Tryz.prog.underlying 46 = some (.slice (Tryz.prog.elem 46)) := by kernel_rfl
 have he : Tryz.prog.elem 46 = 5 := by kernel_rfl
 have hrun : ∀ w : World, (Instr.slice 46 (.slice ao N cap) (some (.int .i64 pos)) none none).run Tryz.prog w = .ok (sliced ao pos N cap 1) w := by
  intro w
  have := run_slice_l (P := Tryz.prog) (w := w) 46 ao N cap hu .i64 pos (by omega) (by omega)
  rw [this, he]
  simp [sizeOf, typeInfo, hi, hz1]
 refine ⟨_, _, fun w => by rw [hrun w]; rfl, fun w hr => ?_⟩
 by_cases hcp : cap = pos
 ·rw [if_pos hcp, List.drop_eq_nil_of_le (by omega)]
  exact RowAt.nil _ _
 ·rw [if_neg hcp]
  rcases h.shape with rfl | ⟨g, rfl⟩
  ·have hx : xs = [] := by
    by_cases hx : xs = []
    ·exact hx
    ·obtain ⟨b, off, he, _⟩ := hr.2 hx; cases he
   subst hx
   simpa using RowAt.nil w none
  ·simp only [Option.map_some, Nat.mul_one]
   rw [add_none]
   exact hr.drop pos
theorem parsenum_q (ao : Option Addr) (N cap : Nat) (xs : List Int) (w : World) (n s e : Int) (hp : parse xs = (n, s, e)) (hN : N = xs.length) (hl : xs.length <= 140737488355328) (hr : RowAt w ao xs) :
  Calls Tryz.prog 70 #[.slice ao N cap] w fun r w' => r = .returned (.tuple #[.int .u64 n, .int .i64 s, .int .i64 e]) /\ w' = w :=
 (parsenum_eq ao N cap xs w n s e hp hN hl hr).mono fun _ _ h => ⟨h.1, h.2.symm⟩
theorem RInv.patched {w wA wB : World} {r : Nat} {ao : Option Addr} {N cap : Nat} {xs : List Int} {p0 pos : Nat} {e0 err : Int} (h0 : RInv w r ao N cap xs p0 e0) (hA : RInv wA r ao N cap xs pos err) (hb : Below w.heap.size wA wB) : RInv wB r ao N cap xs pos err := by
 refine ⟨(hb.block r h0.lt).trans hA.hr, hA.len, ⟨hA.row.1, fun hne => ?_⟩, hA.nil, hA.cap, hA.pos, hA.lim, hA.shape⟩
 obtain ⟨b, off, he, hc⟩ := hA.row.2 hne
 obtain ⟨b', off', he', hc'⟩ := h0.row.2 hne
 rw [he] at he'
 simp only [Option.some.injEq, Addr.mk.injEq, and_true] at he'
 obtain ⟨rfl, rfl⟩ := he'
 exact ⟨b, off, he, fun i hi => (hb.cell (p := ⟨b, off + i, none⟩) (World.block_lt_of_cell? w _ (hc' i hi))).trans (hc i hi)⟩
theorem ROnly.patched {w wA wB : World} {r : Nat} (h : ROnly w wA r) (hb : Below w.heap.size wA wB) : ROnly w wB r :=
 ⟨hb.os.trans h.os, hb.tape.trans h.tape, hb.output.trans h.output, Nat.le_trans h.size hb.size, fun k hk hr => (hb.block k hk).trans (h.block k hk hr)⟩
theorem two_sets {w wA : World} (o : Nat) (u v : Value) (o' : Nat) : Below w.heap.size wA ((wA.setCell ⟨w.heap.size, o, none⟩ u).setCell ⟨w.heap.size, o', none⟩ v) :=
 ((Below.refl _ _).setCell (p := ⟨w.heap.size, o, none⟩) (Nat.le_refl _) u).setCell (p := ⟨w.heap.size, o', none⟩) (Nat.le_refl _) v
def peekS (xs : List Int) (pos : Nat) (most : Int) : Int × Int × Int :=
 if (parse (xs.drop pos)).2.2 ≠ 0 then (0, 0, (parse (xs.drop pos)).2.2)
 else if most < (parse (xs.drop pos)).1 then (0, 0, 4)
 else ((parse (xs.drop pos)).1, (parse (xs.drop pos)).2.1, 0)
def PeekEnds (r : Nat) (ao : Option Addr) (N cap : Nat) (xs : List Int) (pos : Nat) (n s err : Int) (w : World) (e : Ending) (w' : World) : Prop :=
 e = .returned (.agg #[.int .u64 n, .int .i64 s]) /\ RInv w' r ao N cap xs pos err /\ ROnly w w' r
set_option maxRecDepth 100000 in
set_option maxHeartbeats 800000 in
theorem peek_none {w : World} {r : Nat} {ao : Option Addr} {N cap : Nat} {xs : List Int} {pos : Nat} {err : Int} (most : Int) (h : RInv w r ao N cap xs pos err) (hne : (err == 0) = false) :
  Calls Tryz.prog 130 #[.pointer (some ⟨r, 0, none⟩), .int .u64 most] w (PeekEnds r ao N cap xs pos 0 0 err w) := by
 have h1 := h.later (below_alloc w (.cells #[.int .u64 0, .int .i64 0] 169))
 go_enter Tryz.func130, Tryz.ntmps130
 go_wp2_with (go_at_call 129; refine (rready_any h1).mono ?_; rintro e w' ⟨rfl, rfl⟩)
 go_returns
 exact ⟨rfl, h1, ROnly.ofBelow (below_alloc _ _)⟩
set_option maxRecDepth 100000 in
set_option maxHeartbeats 800000 in
theorem peek_err {w : World} {r : Nat} {ao : Option Addr} {N cap : Nat} {xs : List Int} {pos : Nat} (most : Int) (h : RInv w r ao N cap xs pos 0) (n s ep : Int) (hp : parse (xs.drop pos) = (n, s, ep)) (hne : ep ≠ 0) :
  Calls Tryz.prog 130 #[.pointer (some ⟨r, 0, none⟩), .int .u64 most] w (PeekEnds r ao N cap xs pos 0 0 ep w) := by
 have h1 := h.later (below_alloc w (.cells #[.int .u64 0, .int .i64 0] 169))
 have c1 := h1.c1
 have c2 := h1.c2
 have hrw := h1.lt
 obtain ⟨ao', c', hsl, hrow⟩ := slice_from h
 have HR : Hid _ := hrow
 have HP : Hid _ := hp
 have HN : Hid (N - pos = (xs.drop pos).length) := by show _ = _; rw [h.len]; simp
 have HL : Hid ((xs.drop pos).length <= 140737488355328) := by show _ <= _; have := h.lim; simp; omega
 have hb : (ep == 0) = false := by simpa using hne
 have hb' : (ep != 0) = true := by simpa using hne
 clear hrow hp hne
 go_enter Tryz.func130, Tryz.ntmps130
 go_wp2_with (go_at_call 129; refine (rready_any h1).mono ?_; rintro e w' ⟨rfl, rfl⟩)
 go_quiet ((go_at_call 70; exact Calls.quiet_of_same (parsenum_q _ _ _ (xs.drop pos) _ n s ep HP.out HN.out HL.out (HR.out _ (h1.drewN _).row))))
 go_wp2_with (go_at_call 101; refine (rfail_ok ep (h1.drewN _)).mono ?_; rintro e w' ⟨rfl, rfl⟩)
 go_returns
 exact ⟨rfl, h.patched ((h1.drewN _).setErr ep) (two_sets _ _ _ _), ((ROnly.ofBelow (below_drewN (below_alloc _ _) _)).trans (ROnly.set _ _ _ _)).patched (two_sets _ _ _ _)⟩
set_option maxRecDepth 100000 in
set_option maxHeartbeats 800000 in
theorem peek_big {w : World} {r : Nat} {ao : Option Addr} {N cap : Nat} {xs : List Int} {pos : Nat} (most : Int) (h : RInv w r ao N cap xs pos 0) (n s : Int) (hp : parse (xs.drop pos) = (n, s, 0)) (hn : most < n) :
  Calls Tryz.prog 130 #[.pointer (some ⟨r, 0, none⟩), .int .u64 most] w (PeekEnds r ao N cap xs pos 0 0 4 w) := by
 have h1 := h.later (below_alloc w (.cells #[.int .u64 0, .int .i64 0] 169))
 have c1 := h1.c1
 have c2 := h1.c2
 have hrw := h1.lt
 obtain ⟨ao', c', hsl, hrow⟩ := slice_from h
 have HR : Hid _ := hrow
 have HP : Hid _ := hp
 have HN : Hid (N - pos = (xs.drop pos).length) := by show _ = _; rw [h.len]; simp
 have HL : Hid ((xs.drop pos).length <= 140737488355328) := by show _ <= _; have := h.lim; simp; omega
 clear hrow hp
 go_enter Tryz.func130, Tryz.ntmps130
 go_wp2_with (go_at_call 129; refine (rready_any h1).mono ?_; rintro e w' ⟨rfl, rfl⟩)
 go_quiet ((go_at_call 70; exact Calls.quiet_of_same (parsenum_q _ _ _ (xs.drop pos) _ n s 0 HP.out HN.out HL.out (HR.out _ (h1.drewN _).row))))
 go_wp2_with (go_at_call 101; refine (rfail_ok 4 (h1.drewN _)).mono ?_; rintro e w' ⟨rfl, rfl⟩)
 go_returns
 exact ⟨rfl, h.patched ((h1.drewN _).setErr 4) (two_sets _ _ _ _), ((ROnly.ofBelow (below_drewN (below_alloc _ _) _)).trans (ROnly.set _ _ _ _)).patched (two_sets _ _ _ _)⟩
set_option maxRecDepth 100000 in
set_option maxHeartbeats 800000 in
theorem peek_ok {w : World} {r : Nat} {ao : Option Addr} {N cap : Nat} {xs : List Int} {pos : Nat} (most : Int) (h : RInv w r ao N cap xs pos 0) (n s : Int) (hp : parse (xs.drop pos) = (n, s, 0)) (hn : ¬ most < n) :
  Calls Tryz.prog 130 #[.pointer (some ⟨r, 0, none⟩), .int .u64 most] w (PeekEnds r ao N cap xs pos n s 0 w) := by
 have h1 := h.later (below_alloc w (.cells #[.int .u64 0, .int .i64 0] 169))
 have c1 := h1.c1
 have c2 := h1.c2
 have hrw := h1.lt
 obtain ⟨ao', c', hsl, hrow⟩ := slice_from h
 have HR : Hid _ := hrow
 have HP : Hid _ := hp
 have HN : Hid (N - pos = (xs.drop pos).length) := by show _ = _; rw [h.len]; simp
 have HL : Hid ((xs.drop pos).length <= 140737488355328) := by show _ <= _; have := h.lim; simp; omega
 clear hrow hp
 go_enter Tryz.func130, Tryz.ntmps130
 go_wp2_with (go_at_call 129; refine (rready_any h1).mono ?_; rintro e w' ⟨rfl, rfl⟩)
 go_quiet ((go_at_call 70; exact Calls.quiet_of_same (parsenum_q _ _ _ (xs.drop pos) _ n s 0 HP.out HN.out HL.out (HR.out _ (h1.drewN _).row))))
 go_wp2
 go_returns
 exact ⟨rfl, h.patched (h1.drewN _) (two_sets _ _ _ _), (ROnly.ofBelow (below_drewN (below_alloc _ _) _)).patched (two_sets _ _ _ _)⟩
theorem peek_any {w : World} {r : Nat} {ao : Option Addr} {N cap : Nat} {xs : List Int} {pos : Nat} (most : Int) (h : RInv w r ao N cap xs pos 0) :
  Calls Tryz.prog 130 #[.pointer (some ⟨r, 0, none⟩), .int .u64 most] w (PeekEnds r ao N cap xs pos (peekS xs pos most).1 (peekS xs pos most).2.1 (peekS xs pos most).2.2 w) := by
 obtain ⟨n, s, ep, hp⟩ : ∃ n s e, parse (xs.drop pos) = (n, s, e) := ⟨_, _, _, rfl⟩
 rw [peekS, hp]
 by_cases h1 : ep = 0
 ·subst h1
  rw [if_neg (by simp)]
  by_cases h2 : most < n
  ·rw [if_pos h2]; exact peek_big most h n s hp h2
  ·rw [if_neg h2]; exact peek_ok most h n s hp h2
 ·rw [if_pos h1]; exact peek_err most h n s ep hp h1
end Go.Proofs.YtobhemaikomdaaaGreatDoor.C
namespace Go.Proofs.YtobhemaikomdaaaGreatDoor.C
set_option linter.unusedVariables false
open Go.RowKit
theorem peek_eq {w : World} {r : Nat} {ao : Option Addr} {N cap : Nat} {xs : List Int} {pos : Nat} (most : Int) (h : RInv w r ao N cap xs pos 0) (n s e : Int) (hp : peekS xs pos most = (n, s, e)) :
  Calls Tryz.prog 130 #[.pointer (some ⟨r, 0, none⟩), .int .u64 most] w fun x w' => x = .returned (.agg #[.int .u64 n, .int .i64 s]) /\ RInv w' r ao N cap xs pos e /\ ROnly w w' r := by
 have := peek_any most h
 rw [hp] at this
 exact this
theorem peekS_facts (xs : List Int) (hb : isBytes xs) (pos : Nat) (hpos : pos <= xs.length) (most n s e : Int) (h : peekS xs pos most = (n, s, e)) :
  (e ≠ 0 -> n = 0 /\ s = 0) /\ (e = 0 -> 1 <= s /\ s <= 10 /\ pos + s <= xs.length /\ 0 <= n /\ n <= most /\ n < 18446744073709551616 /\ parse (xs.drop pos) = (n, s, 0)) := by
 obtain ⟨n', s', e', hp⟩ : ∃ n s e, parse (xs.drop pos) = (n, s, e) := ⟨_, _, _, rfl⟩
 obtain ⟨_, hf⟩ := parse_facts (xs.drop pos) (isBytes_drop hb pos) n' s' e' hp
 rw [peekS, hp] at h
 by_cases h1 : e' = 0
 ·subst h1
  rw [if_neg (by simp)] at h
  by_cases h2 : most < n'
  ·rw [if_pos h2] at h
   simp only [Prod.mk.injEq] at h
   obtain ⟨rfl, rfl, rfl⟩ := h
   exact ⟨fun _ => ⟨rfl, rfl⟩, fun h => by simp at h⟩
  ·rw [if_neg h2] at h
   simp only [Prod.mk.injEq] at h
   obtain ⟨rfl, rfl, rfl⟩ := h
   have := hf rfl
   simp only [List.length_drop] at this
   exact ⟨fun h => absurd rfl h, fun _ => ⟨by omega, by omega, by omega, by omega, by omega, by omega, hp⟩⟩
 ·rw [if_pos h1] at h
  simp only [Prod.mk.injEq] at h
  obtain ⟨rfl, rfl, rfl⟩ := h
  exact ⟨fun _ => ⟨rfl, rfl⟩, fun h => absurd h h1⟩
def countS (xs : List Int) (pos : Nat) (least most : Int) : Int × Int × Int :=
 if least < 1 ∨ most < 0 then (0, 0, 1)
 else if (peekS xs pos most).2.2 ≠ 0 then (0, 0, (peekS xs pos most).2.2)
 else if ((xs.length : Int) - pos - (peekS xs pos most).2.1) / least < (peekS xs pos most).1 then (0, 0, 11)
 else ((peekS xs pos most).1, (peekS xs pos most).2.1, 0)
theorem ROnly.own2 {w w2 : World} {r : Nat} {a b : Value} {t : TypeId} (h : ROnly (w.alloc (.cells #[a, b] t)) w2 r) (hr : r < w.heap.size) :
  w2.heap[w.heap.size]? = some (.cells #[a, b] t) :=
 (h.block w.heap.size (by simp) (by omega)).trans (heap_alloc_new w _)
theorem cells2 {w : World} {b : Nat} {x y : Value} {t : TypeId} (h : w.heap[b]? = some (.cells #[x, y] t)) : w.cell? ⟨b, 0, none⟩ = some x /\ w.cell? ⟨b, 1, none⟩ = some y /\ w.frozen? ⟨b, 0, none⟩ = false /\ w.frozen? ⟨b, 1, none⟩ = false :=
 ⟨by simp [World.cell?, h], by simp [World.cell?, h], by simp [World.frozen?, h], by simp [World.frozen?, h]⟩
set_option maxRecDepth 100000 in
set_option maxHeartbeats 800000 in
theorem pcount_args {w : World} {r : Nat} {ao : Option Addr} {N cap : Nat} {xs : List Int} {pos : Nat} (least most : Int) (h : RInv w r ao N cap xs pos 0) (hb : least < 1 ∨ most < 0) :
  Calls Tryz.prog 105 #[.pointer (some ⟨r, 0, none⟩), .int .i64 least, .int .i64 most] w (PeekEnds r ao N cap xs pos 0 0 1 w) := by
 have h1 := h.later (below_alloc w (.cells #[.int .u64 0, .int .i64 0] 169))
 have hrl := h.lt
 by_cases hl : least < 1
 ·go_enter Tryz.func105, Tryz.ntmps105
  go_wp2_with (go_at_call 101; refine (rfail_ok 1 h1).mono ?_; rintro e w' ⟨rfl, rfl⟩)
  go_returns
  exact ⟨rfl, (h.setErr 1).later (below_alloc _ _), (ROnly.set w r 3 _).trans (ROnly.ofBelow (below_alloc _ _))⟩
 ·have hm : most < 0 := by omega
  go_enter Tryz.func105, Tryz.ntmps105
  go_wp2_with (go_at_call 101; refine (rfail_ok 1 h1).mono ?_; rintro e w' ⟨rfl, rfl⟩)
  go_returns
  exact ⟨rfl, (h.setErr 1).later (below_alloc _ _), (ROnly.set w r 3 _).trans (ROnly.ofBelow (below_alloc _ _))⟩
set_option maxRecDepth 100000 in
set_option maxHeartbeats 800000 in
theorem pcount_rest {w : World} {r : Nat} {ao : Option Addr} {N cap : Nat} {xs : List Int} {pos : Nat} (least most : Int) (h : RInv w r ao N cap xs pos 0) (hl : 1 <= least) (hm : 0 <= most) (hm1 : most <= 9223372036854775807) (hl1 : least <= 9223372036854775807)
  (n s e : Int) (hp : peekS xs pos most = (n, s, e)) (hn0 : 0 <= n) (hn1 : n < 18446744073709551616) (hs0 : 0 <= s) (hs1 : s <= 10) (hsl : (pos : Int) + s <= N) (hle : ¬ ((N : Int) - pos - s) / least < n) :
  Calls Tryz.prog 105 #[.pointer (some ⟨r, 0, none⟩), .int .i64 least, .int .i64 most] w (PeekEnds r ao N cap xs pos n s e w) := by
 have h1 := h.later (below_alloc w (.cells #[.int .u64 0, .int .i64 0] 169))
 have hrl := h.lt
 have hrne : r ≠ w.heap.size := by omega
 have HP : Hid _ := hp
 have hN : N <= 140737488355328 := by rw [h.len]; exact h.lim
 have hq0 : 0 <= ((N : Int) - pos - s) / least := Int.ediv_nonneg (by omega) (by omega)
 have hq1 : ((N : Int) - pos - s) / least <= 140737488355328 := Int.le_trans (Int.ediv_le_self _ (by omega)) (by omega)
 clear hp
 go_enter Tryz.func105, Tryz.ntmps105
 go_wp2_with (go_at_call 130; refine (peek_eq most h1 n s e HP.out).mono ?_; rintro e2 w2 ⟨rfl, hR2, hO2⟩; have hB2 := hO2.own2 hrl; obtain ⟨q0, q1, q2, q3⟩ := cells2 hB2; have hz2 : w.heap.size < w2.heap.size := lt_of_block hB2)
 have hR3 := hR2.later (below_alloc w2 (.cells #[.int .u64 n, .int .i64 s] 169))
 go_quiet ((go_at_call 78; exact Calls.quiet_of (rleft_any (hR3.drewN _))))
 go_wp2
 go_quiet (fail)
 go_wp2
 refine bodyPost_ret (v := .agg #[.int .u64 n, .int .i64 s]) (by simp [results, Tryz.results105, go_sem, q0, q1, hz2]) rfl ?_
 exact ⟨rfl, h.patched (hR3.drewN _) (two_sets _ _ _ _), ((ROnly.ofBelow (below_alloc w _)).trans (hO2.trans (ROnly.ofBelow (below_drewN (below_alloc w2 _) _)))).patched (two_sets _ _ _ _)⟩
set_option maxRecDepth 100000 in
set_option maxHeartbeats 800000 in
theorem pcount_short {w : World} {r : Nat} {ao : Option Addr} {N cap : Nat} {xs : List Int} {pos : Nat} (least most : Int) (h : RInv w r ao N cap xs pos 0) (hl : 1 <= least) (hm : 0 <= most) (hm1 : most <= 9223372036854775807) (hl1 : least <= 9223372036854775807)
  (n s : Int) (hp : peekS xs pos most = (n, s, 0)) (hn0 : 0 <= n) (hn1 : n < 18446744073709551616) (hs0 : 0 <= s) (hs1 : s <= 10) (hsl : (pos : Int) + s <= N) (hle : ((N : Int) - pos - s) / least < n) :
  Calls Tryz.prog 105 #[.pointer (some ⟨r, 0, none⟩), .int .i64 least, .int .i64 most] w (PeekEnds r ao N cap xs pos 0 0 11 w) := by
 have h1 := h.later (below_alloc w (.cells #[.int .u64 0, .int .i64 0] 169))
 have hrl := h.lt
 have hrne : r ≠ w.heap.size := by omega
 have HP : Hid _ := hp
 have hN : N <= 140737488355328 := by rw [h.len]; exact h.lim
 have hq0 : 0 <= ((N : Int) - pos - s) / least := Int.ediv_nonneg (by omega) (by omega)
 have hq1 : ((N : Int) - pos - s) / least <= 140737488355328 := Int.le_trans (Int.ediv_le_self _ (by omega)) (by omega)
 clear hp
 go_enter Tryz.func105, Tryz.ntmps105
 go_wp2_with (go_at_call 130; refine (peek_eq most h1 n s 0 HP.out).mono ?_; rintro e2 w2 ⟨rfl, hR2, hO2⟩; have hB2 := hO2.own2 hrl; obtain ⟨q0, q1, q2, q3⟩ := cells2 hB2; have hz2 : w.heap.size < w2.heap.size := lt_of_block hB2)
 have hR3 := hR2.later (below_alloc w2 (.cells #[.int .u64 n, .int .i64 s] 169))
 go_quiet ((go_at_call 78; exact Calls.quiet_of (rleft_any (hR3.drewN _))))
 go_wp2
 go_quiet (fail)
 go_wp2_with (go_at_call 101; refine (rfail_ok 11 (hR3.drewN _)).mono ?_; rintro e w' ⟨rfl, rfl⟩)
 refine bodyPost_ret (v := .agg #[.int .u64 0, .int .i64 0]) (by simp [results, Tryz.results105, go_sem, q0, q1, hz2]) rfl ?_
 exact ⟨rfl, h.patched ((hR3.drewN _).setErr 11) (two_sets _ _ _ _), ((ROnly.ofBelow (below_alloc w _)).trans ((hO2.trans (ROnly.ofBelow (below_drewN (below_alloc w2 _) _))).trans (ROnly.set _ _ _ _))).patched (two_sets _ _ _ _)⟩
theorem pcount_any {w : World} {r : Nat} {ao : Option Addr} {N cap : Nat} {xs : List Int} {pos : Nat} (least most : Int) (h : RInv w r ao N cap xs pos 0) (hm0 : -9223372036854775808 <= most) (hm1 : most <= 9223372036854775807) (hl1 : least <= 9223372036854775807) :
  Calls Tryz.prog 105 #[.pointer (some ⟨r, 0, none⟩), .int .i64 least, .int .i64 most] w (PeekEnds r ao N cap xs pos (countS xs pos least most).1 (countS xs pos least most).2.1 (countS xs pos least most).2.2 w) := by
 by_cases hb : least < 1 ∨ most < 0
 ·rw [countS, if_pos hb]
  exact pcount_args least most h hb
 ·have hl : 1 <= least := by omega
  have hm : 0 <= most := by omega
  obtain ⟨n, s, e, hp⟩ : ∃ n s e, peekS xs pos most = (n, s, e) := ⟨_, _, _, rfl⟩
  obtain ⟨f1, f2⟩ := peekS_facts xs h.row.1 pos h.pos most n s e hp
  have hN := h.len
  have hpos := h.pos
  rw [countS, if_neg hb, hp]
  by_cases he : e = 0
  ·obtain ⟨g1, g2, g3, g4, g5, g6, _⟩ := f2 he
   subst he
   rw [if_neg (by simp)]
   by_cases hle : ((xs.length : Int) - pos - s) / least < n
   ·rw [if_pos hle]
    exact pcount_short least most h hl hm hm1 hl1 n s hp g4 g6 (by omega) g2 (by omega) (by rw [hN]; exact hle)
   ·rw [if_neg hle]
    exact pcount_rest least most h hl hm hm1 hl1 n s 0 hp g4 g6 (by omega) g2 (by omega) (by rw [hN]; exact hle)
  ·obtain ⟨rfl, rfl⟩ := f1 he
   rw [if_pos he]
   have hq : 0 <= ((N : Int) - pos - 0) / least := Int.ediv_nonneg (by omega) (by omega)
   exact pcount_rest least most h hl hm hm1 hl1 0 0 e hp (by omega) (by omega) (by omega) (by omega) (by omega) (by omega)
theorem pcount_eq {w : World} {r : Nat} {ao : Option Addr} {N cap : Nat} {xs : List Int} {pos : Nat} (least most : Int) (h : RInv w r ao N cap xs pos 0) (hm0 : -9223372036854775808 <= most) (hm1 : most <= 9223372036854775807) (hl1 : least <= 9223372036854775807) (n s e : Int) (hc : countS xs pos least most = (n, s, e)) :
  Calls Tryz.prog 105 #[.pointer (some ⟨r, 0, none⟩), .int .i64 least, .int .i64 most] w fun x w' => x = .returned (.agg #[.int .u64 n, .int .i64 s]) /\ RInv w' r ao N cap xs pos e /\ ROnly w w' r := by
 have := pcount_any least most h hm0 hm1 hl1
 rw [hc] at this
 exact this
theorem countS_facts (xs : List Int) (hb : isBytes xs) (pos : Nat) (hpos : pos <= xs.length) (least most n s e : Int) (h : countS xs pos least most = (n, s, e)) :
  (e ≠ 0 -> n = 0 /\ s = 0) /\ (e = 0 -> 1 <= least /\ 1 <= s /\ s <= 10 /\ pos + s <= xs.length /\ 0 <= n /\ n <= most /\ n <= ((xs.length : Int) - pos - s) / least /\ n < 18446744073709551616) := by
 rw [countS] at h
 by_cases hbad : least < 1 ∨ most < 0
 ·rw [if_pos hbad] at h
  simp only [Prod.mk.injEq] at h
  obtain ⟨rfl, rfl, rfl⟩ := h
  exact ⟨fun _ => ⟨rfl, rfl⟩, fun h => by simp at h⟩
 ·rw [if_neg hbad] at h
  obtain ⟨n', s', e', hp⟩ : ∃ n s e, peekS xs pos most = (n, s, e) := ⟨_, _, _, rfl⟩
  obtain ⟨f1, f2⟩ := peekS_facts xs hb pos hpos most n' s' e' hp
  rw [hp] at h
  by_cases he : e' = 0
  ·subst he
   rw [if_neg (by simp)] at h
   by_cases hle : ((xs.length : Int) - pos - s') / least < n'
   ·rw [if_pos hle] at h
    simp only [Prod.mk.injEq] at h
    obtain ⟨rfl, rfl, rfl⟩ := h
    exact ⟨fun _ => ⟨rfl, rfl⟩, fun h => by simp at h⟩
   ·rw [if_neg hle] at h
    simp only [Prod.mk.injEq] at h
    obtain ⟨rfl, rfl, rfl⟩ := h
    obtain ⟨g1, g2, g3, g4, g5, g6, _⟩ := f2 rfl
    exact ⟨fun h => absurd rfl h, fun _ => ⟨by omega, g1, g2, g3, g4, g5, by omega, g6⟩⟩
  ·rw [if_pos he] at h
   simp only [Prod.mk.injEq] at h
   obtain ⟨rfl, rfl, rfl⟩ := h
   exact ⟨fun _ => ⟨rfl, rfl⟩, fun h => absurd h he⟩
set_option maxRecDepth 100000 in
set_option maxHeartbeats 800000 in
theorem count_ok {w : World} {r : Nat} {ao : Option Addr} {N cap : Nat} {xs : List Int} {pos : Nat} (least most : Int) (h : RInv w r ao N cap xs pos 0) (hm0 : -9223372036854775808 <= most) (hm1 : most <= 9223372036854775807) (hl1 : least <= 9223372036854775807) (n : Int) (s : Nat) (hc : countS xs pos least most = (n, (s : Int), 0)) :
  Calls Tryz.prog 77 #[.pointer (some ⟨r, 0, none⟩), .int .i64 least, .int .i64 most] w fun x w' => x = .returned (.int .i64 n) /\ RInv w' r ao N cap xs (pos + s) 0 /\ ROnly w w' r := by
 obtain ⟨_, f2⟩ := countS_facts xs h.row.1 pos h.pos least most n s 0 hc
 obtain ⟨g0, g1, g2, g3, g4, g5, g6, g7⟩ := f2 rfl
 have HC : Hid _ := hc
 have hs0 : 0 < s := by omega
 have hs1 : s <= 140737488355328 := by omega
 have hq : pos + s <= xs.length := by omega
 have hn2 : n <= 9223372036854775807 := by omega
 have hrl := h.lt
 have hps := h.pos
 have hlm := h.lim
 clear hc f2 g1 g2 g3 g5 g6 g7
 go_enter Tryz.func77, Tryz.ntmps77
 go_wp2_with (first
  | (go_at_call 105; refine (pcount_eq least most h hm0 hm1 hl1 n s 0 HC.out).mono ?_; rintro e w2 ⟨rfl, hR2, hO2⟩; have hR3 := hR2.later (below_alloc w2 (.cells #[.int .u64 n, .int .i64 s] 169)); have hr2 := hR2.lt)
  | (go_at_call 106; refine (rmove_some s hR3 hs0 hs1).mono ?_; rintro e w' ⟨rfl, rfl⟩))
 go_ret
 have hx := hR2.setPos (pos + s) hq
 rw [Int.natCast_add] at hx
 exact ⟨rfl, hx.later (below_alloc _ _), (hO2.trans (ROnly.set _ _ _ _)).trans (ROnly.ofBelow (below_alloc _ _))⟩
set_option maxRecDepth 100000 in
set_option maxHeartbeats 800000 in
theorem count_err {w : World} {r : Nat} {ao : Option Addr} {N cap : Nat} {xs : List Int} {pos : Nat} (least most : Int) (h : RInv w r ao N cap xs pos 0) (hm0 : -9223372036854775808 <= most) (hm1 : most <= 9223372036854775807) (hl1 : least <= 9223372036854775807) (e : Int) (hc : countS xs pos least most = (0, 0, e)) :
  Calls Tryz.prog 77 #[.pointer (some ⟨r, 0, none⟩), .int .i64 least, .int .i64 most] w fun x w' => x = .returned (.int .i64 0) /\ RInv w' r ao N cap xs pos e /\ ROnly w w' r := by
 have HC : Hid _ := hc
 clear hc
 go_enter Tryz.func77, Tryz.ntmps77
 go_wp2_with (first
  | (go_at_call 105; refine (pcount_eq least most h hm0 hm1 hl1 0 0 e HC.out).mono ?_; rintro e2 w2 ⟨rfl, hR2, hO2⟩)
  | (go_at_call 106; refine (rmove_none).mono ?_; rintro e w' ⟨rfl, rfl⟩))
 go_ret
 exact ⟨rfl, hR2.later (below_alloc _ _), hO2.trans (ROnly.ofBelow (below_alloc w2 _))⟩
def endS (xs : List Int) (pos : Nat) (err : Int) : Int × Int := if err ≠ 0 then (err, pos) else if pos < xs.length then (12, pos) else (0, 0)
set_option maxRecDepth 100000 in
set_option maxHeartbeats 800000 in
theorem rend_any {w : World} {r : Nat} {ao : Option Addr} {N cap : Nat} {xs : List Int} {pos : Nat} {err : Int} (h : RInv w r ao N cap xs pos err) :
  Calls Tryz.prog 40 #[.pointer (some ⟨r, 0, none⟩)] w fun x w' => x = .returned (.tuple #[.int .i64 (endS xs pos err).1, .int .i64 (endS xs pos err).2]) /\ ∃ n, w' = w.drewN n := by
 have c0 := h.c0
 have c2 := h.c2
 have c3 := h.c3
 have hN := h.len
 have hps := h.pos
 by_cases he : err = 0
 ·subst he
  by_cases hp : pos < xs.length
  ·have FIN : Hid (endS xs pos 0 = (12, (pos : Int))) := by show _ = _; rw [endS, if_neg (by simp), if_pos hp]
   have hd : (0 : Int) < (N : Int) - pos := by omega
   rw [FIN.out]
   clear hN hps hp
   go_enter Tryz.func40, Tryz.ntmps40
   go_wp2_with (go_at_call 78; refine (rleft_any h).mono ?_; rintro e w' ⟨rfl, m, rfl⟩)
   go_quiet (fail)
   go_wp2
   go_ret2
   exact ⟨rfl, _, World.drewN_drewN _ _ _⟩
  ·have FIN : Hid (endS xs pos 0 = (0, 0)) := by show _ = _; rw [endS, if_neg (by simp), if_neg hp]
   have hd : ¬ (0 : Int) < (N : Int) - pos := by omega
   rw [FIN.out]
   clear hN hps hp
   go_enter Tryz.func40, Tryz.ntmps40
   go_wp2_with (go_at_call 78; refine (rleft_any h).mono ?_; rintro e w' ⟨rfl, m, rfl⟩)
   go_ret2
   exact ⟨rfl, _, rfl⟩
 ·have FIN : Hid (endS xs pos err = (err, (pos : Int))) := by show _ = _; rw [endS, if_pos he]
  have hb : (err != 0) = true := by simpa using he
  rw [FIN.out]
  clear hN hps he
  go_enter Tryz.func40, Tryz.ntmps40
  go_wp2
  go_quiet (fail)
  go_wp2
  go_ret2
  exact ⟨rfl, _, rfl⟩
end Go.Proofs.YtobhemaikomdaaaGreatDoor.C
namespace Go.Proofs.YtobhemaikomdaaaGreatDoor.C
set_option linter.unusedVariables false
open Go.RowKit
set_option maxRecDepth 100000 in
set_option maxHeartbeats 800000 in
theorem take_ok {w : World} {r : Nat} {ao : Option Addr} {N cap : Nat} {xs : List Int} {pos : Nat} (most : Int) (h : RInv w r ao N cap xs pos 0) (n : Int) (s : Nat) (hp : peekS xs pos most = (n, (s : Int), 0)) :
  Calls Tryz.prog 102 #[.pointer (some ⟨r, 0, none⟩), .int .u64 most] w fun x w' => x = .returned (.int .u64 n) /\ RInv w' r ao N cap xs (pos + s) 0 /\ ROnly w w' r := by
 obtain ⟨_, f2⟩ := peekS_facts xs h.row.1 pos h.pos most n s 0 hp
 obtain ⟨g1, g2, g3, g4, g5, g6, _⟩ := f2 rfl
 have HC : Hid _ := hp
 have hs0 : 0 < s := by omega
 have hs1 : s <= 140737488355328 := by omega
 have hq : pos + s <= xs.length := by omega
 have hps := h.pos
 have hlm := h.lim
 clear hp f2 g1 g2 g3 g5 g6
 go_enter Tryz.func102, Tryz.ntmps102
 go_wp2_with (first
  | (go_at_call 130; refine (peek_eq most h n s 0 HC.out).mono ?_; rintro e w2 ⟨rfl, hR2, hO2⟩; have hR3 := hR2.later (below_alloc w2 (.cells #[.int .u64 n, .int .i64 s] 169)); have hr2 := hR2.lt)
  | (go_at_call 106; refine (rmove_some s hR3 hs0 hs1).mono ?_; rintro e w' ⟨rfl, rfl⟩))
 go_ret
 have hx := hR2.setPos (pos + s) hq
 rw [Int.natCast_add] at hx
 exact ⟨rfl, hx.later (below_alloc _ _), (hO2.trans (ROnly.set _ _ _ _)).trans (ROnly.ofBelow (below_alloc _ _))⟩
set_option maxRecDepth 100000 in
set_option maxHeartbeats 800000 in
theorem take_err {w : World} {r : Nat} {ao : Option Addr} {N cap : Nat} {xs : List Int} {pos : Nat} (most : Int) (h : RInv w r ao N cap xs pos 0) (e : Int) (hp : peekS xs pos most = (0, 0, e)) :
  Calls Tryz.prog 102 #[.pointer (some ⟨r, 0, none⟩), .int .u64 most] w fun x w' => x = .returned (.int .u64 0) /\ RInv w' r ao N cap xs pos e /\ ROnly w w' r := by
 have HC : Hid _ := hp
 clear hp
 go_enter Tryz.func102, Tryz.ntmps102
 go_wp2_with (first
  | (go_at_call 130; refine (peek_eq most h 0 0 e HC.out).mono ?_; rintro e2 w2 ⟨rfl, hR2, hO2⟩)
  | (go_at_call 106; refine (rmove_none).mono ?_; rintro e w' ⟨rfl, rfl⟩))
 go_ret
 exact ⟨rfl, hR2.later (below_alloc _ _), hO2.trans (ROnly.ofBelow (below_alloc w2 _))⟩
set_option maxRecDepth 100000 in
set_option maxHeartbeats 800000 in
theorem take_none {w : World} {r : Nat} {ao : Option Addr} {N cap : Nat} {xs : List Int} {pos : Nat} {err : Int} (most : Int) (h : RInv w r ao N cap xs pos err) (hne : (err == 0) = false) :
  Calls Tryz.prog 102 #[.pointer (some ⟨r, 0, none⟩), .int .u64 most] w fun x w' => x = .returned (.int .u64 0) /\ RInv w' r ao N cap xs pos err /\ ROnly w w' r := by
 go_enter Tryz.func102, Tryz.ntmps102
 go_wp2_with (first
  | (go_at_call 130; refine (peek_none most h hne).mono ?_; rintro e2 w2 ⟨rfl, hR2, hO2⟩)
  | (go_at_call 106; refine (rmove_none).mono ?_; rintro e w' ⟨rfl, rfl⟩))
 go_ret
 exact ⟨rfl, hR2.later (below_alloc _ _), hO2.trans (ROnly.ofBelow (below_alloc w2 _))⟩
def takeS (xs : List Int) (pos : Nat) (err most : Int) : Int × Nat × Int :=
 if err ≠ 0 then (0, pos, err)
 else if (peekS xs pos most).2.2 ≠ 0 then (0, pos, (peekS xs pos most).2.2)
 else ((peekS xs pos most).1, pos + (peekS xs pos most).2.1.toNat, 0)
theorem take_any {w : World} {r : Nat} {ao : Option Addr} {N cap : Nat} {xs : List Int} {pos : Nat} {err : Int} (most : Int) (h : RInv w r ao N cap xs pos err) (n : Int) (p : Nat) (e : Int) (ht : takeS xs pos err most = (n, p, e)) :
  Calls Tryz.prog 102 #[.pointer (some ⟨r, 0, none⟩), .int .u64 most] w fun x w' => x = .returned (.int .u64 n) /\ RInv w' r ao N cap xs p e /\ ROnly w w' r := by
 rw [takeS] at ht
 by_cases he : err = 0
 ·subst he
  rw [if_neg (by simp)] at ht
  obtain ⟨n', s', e', hp⟩ : ∃ n s e, peekS xs pos most = (n, s, e) := ⟨_, _, _, rfl⟩
  obtain ⟨f1, f2⟩ := peekS_facts xs h.row.1 pos h.pos most n' s' e' hp
  rw [hp] at ht
  by_cases he' : e' = 0
  ·subst he'
   rw [if_neg (by simp)] at ht
   simp only [Prod.mk.injEq] at ht
   obtain ⟨rfl, rfl, rfl⟩ := ht
   have := f2 rfl
   obtain ⟨s, rfl⟩ := Int.eq_ofNat_of_zero_le (show 0 <= s' by omega)
   exact take_ok most h n' s hp
  ·obtain ⟨rfl, rfl⟩ := f1 he'
   rw [if_pos he'] at ht
   simp only [Prod.mk.injEq] at ht
   obtain ⟨rfl, rfl, rfl⟩ := ht
   exact take_err most h e' hp
 ·rw [if_pos he] at ht
  simp only [Prod.mk.injEq] at ht
  obtain ⟨rfl, rfl, rfl⟩ := ht
  exact take_none most h (by simpa using he)
theorem WInv.only {w w' : World} {r : Nat} {p q : Nat} {v : Value} {zs : List Int} {e : Int} (hW : WInv w p q v zs e) (ho : ROnly w w' r) (ha : p ≠ r /\ q ≠ r /\ some r ≠ v.ownBlock) : WInv w' p q v zs e :=
 ⟨(ho.block p (lt_of_block hW.hp) ha.1).trans hW.hp, (ho.block q (lt_of_block hW.hq) ha.2.1).trans hW.hq, hW.own.kept fun k hk => ho.block k (hW.own.lt k hk) (fun e => ha.2.2 (by rw [hk, e]))⟩
end Go.Proofs.YtobhemaikomdaaaGreatDoor.C
namespace Go.Proofs.YtobhemaikomdaaaGreatDoor.C
set_option linter.unusedVariables false
open Go.RowKit
theorem rint_any {w : World} {r : Nat} {ao : Option Addr} {N cap : Nat} {xs : List Int} {pos : Nat} {err : Int} (most : Int) (h : RInv w r ao N cap xs pos err) (hm : 0 <= most) (hm1 : most <= 9223372036854775807) (n : Int) (p : Nat) (e : Int) (ht : takeS xs pos err most = (n, p, e)) (hn0 : 0 <= n) (hn1 : n <= 9223372036854775807) :
  Calls Tryz.prog 72 #[.pointer (some ⟨r, 0, none⟩), .int .i64 most] w fun x w' => x = .returned (.int .i64 n) /\ RInv w' r ao N cap xs p e /\ ROnly w w' r := by
 have HT : Hid _ := ht
 clear ht
 go_enter Tryz.func72, Tryz.ntmps72
 go_wp2_with (go_at_call 102; refine (take_any most h n p e HT.out).mono ?_; rintro e2 w2 ⟨rfl, hR2, hO2⟩)
 go_ret
 exact ⟨rfl, hR2, hO2⟩
def unfoldS (n : Int) : Int := if n % 2 = 1 then -(n / 2) - 1 else n / 2
theorem unfold_any (n : Int) (w : World) (h0 : 0 <= n) (h1 : n <= 18446744073709551615) :
  Calls Tryz.prog 103 #[.int .u64 n] w fun e w' => e = .returned (.int .i64 (unfoldS n)) /\ w = w' := by
 by_cases hn : n % 2 = 1
 ·have FS : Hid (bits .xor .i64 (-1) (n / 2) = unfoldS n) := by
   show _ = _
   rw [unfoldS, if_pos hn, xor_ones _ (by omega) (by omega)]
  have hb : (n % 2 == 1) = true := by simp [hn]
  clear hn
  go_enter Tryz.func103, Tryz.ntmps103
  go_wp2
  go_ret
  exact ⟨by rw [<- FS.out]; rfl, rfl⟩
 ·have FS : Hid (n / 2 = unfoldS n) := by show _ = _; rw [unfoldS, if_neg hn]
  have hb : (n % 2 == 1) = false := by simp [hn]
  clear hn
  go_enter Tryz.func103, Tryz.ntmps103
  go_wp2
  go_ret
  exact ⟨by rw [<- FS.out]; rfl, rfl⟩
theorem unfold_fold (n : Int) : unfoldS (foldS n) = n := by
 unfold unfoldS foldS
 by_cases h : n < 0
 ·rw [if_pos h, if_pos (by omega)]; omega
 ·rw [if_neg h, if_neg (by omega)]; omega
theorem rsigned_any {w : World} {r : Nat} {ao : Option Addr} {N cap : Nat} {xs : List Int} {pos : Nat} {err : Int} (most : Int) (h : RInv w r ao N cap xs pos err) (hm : 0 <= most) (hm1 : most <= 9223372036854775807) (n : Int) (p : Nat) (e : Int) (ht : takeS xs pos err (foldS most) = (n, p, e)) (hn0 : 0 <= n) (hn1 : n <= 18446744073709551615) :
  Calls Tryz.prog 73 #[.pointer (some ⟨r, 0, none⟩), .int .i64 most] w fun x w' => x = .returned (.int .i64 (unfoldS n)) /\ RInv w' r ao N cap xs p e /\ ROnly w w' r := by
 have HT : Hid _ := ht
 have hm0 : -9223372036854775808 <= most := by omega
 clear ht
 go_enter Tryz.func73, Tryz.ntmps73
 go_wp2_with (first
  | (go_at_call 99; refine (fold_any most w hm0 hm1).mono ?_; rintro e2 w2 ⟨rfl, rfl⟩)
  | (go_at_call 102; refine (take_any (foldS most) h n p e HT.out).mono ?_; rintro e2 w2 ⟨rfl, hR2, hO2⟩)
  | (go_at_call 103; refine (unfold_any n w2 hn0 hn1).mono ?_; rintro e3 w3 ⟨rfl, rfl⟩))
 go_ret
 exact ⟨rfl, hR2, hO2⟩
theorem slice_mid (g N cap lo n : Nat) (h1 : lo + n <= N) (h2 : N <= cap) :
  ∃ ad c', (∀ w, (Instr.slice 46 (.slice (some ⟨g, 0, none⟩) N cap) (some (.int .i64 lo)) (some (.int .i64 ((lo : Int) + n))) none).run Tryz.prog w = .ok (.slice (some ad) n c') w) /\ ∀ w xs, RowAt w (some ⟨g, 0, none⟩) xs -> xs.length = N -> RowAt w (some ad) ((xs.drop lo).take n) := by
 obtain ⟨i0, hi, _, hz1, _⟩ := info_parts info5
 have hu : Tryz.prog.underlying 46 = some (.slice (Tryz.prog.elem 46)) := by kernel_rfl
 have he : Tryz.prog.elem 46 = 5 := by kernel_rfl
 have hrun : ∀ w : World, (Instr.slice 46 (.slice (some ⟨g, 0, none⟩) N cap) (some (.int .i64 lo)) (some (.int .i64 ((lo : Int) + n))) none).run Tryz.prog w = .ok (sliced (some ⟨g, 0, none⟩) lo (lo + n) cap 1) w := by
  intro w
  have := run_slice_lh (P := Tryz.prog) (w := w) 46 (some ⟨g, 0, none⟩) N cap hu .i64 .i64 lo ((lo : Int) + n) (by omega) (by omega) (by omega)
  rw [this, he]
  have e1 : (lo : Int).toNat = lo := by omega
  have e2 : ((lo : Int) + (n : Int)).toNat = lo + n := by omega
  rw [e1, e2]
  simp [sizeOf, typeInfo, hi, hz1]
 by_cases hcp : cap = lo
 ·refine ⟨⟨g, 0, none⟩, cap - lo, fun w => by rw [hrun w]; simp [sliced, hcp], fun w xs hr hx => ?_⟩
  obtain rfl : n = 0 := by omega
  simpa using RowAt.nil w (some ⟨g, 0, none⟩)
 ·refine ⟨⟨g, 0 + lo, none⟩, cap - lo, fun w => by rw [hrun w]; simp [sliced, hcp, add_none], fun w xs hr hx => ?_⟩
  exact (hr.drop lo).take n
def toStr (zs : List Int) : ByteArray := ⟨(zs.map fun x => UInt8.ofNat x.toNat).toArray⟩
theorem toStr_bytes (zs : List Int) (hb : isBytes zs) : strBytes (toStr zs) = zs := by
 simp only [strBytes, toStr, List.map_map, Function.comp_def]
 conv => rhs; rw [<- List.map_id zs]
 apply List.map_congr_left
 intro x hx
 have := hb x hx
 simp
 omega
theorem conv_str (w : World) (ad : Addr) (c : Nat) (zs : List Int) (hr : RowAt w (some ad) zs) : (convert 46 9 (.slice (some ad) zs.length c)).run Tryz.prog w = .ok (.string (toStr zs)) w := by
 have := run_convert_bytes_back (P := Tryz.prog) w 46 9 5 ad c (zs.map fun x => UInt8.ofNat x.toNat) Tryz.underlying46 Tryz.underlying5 Tryz.underlying9 (fun j hj => by
  have hj' : j < zs.length := by simpa using hj
  have hn := hr.news j (.int .u8 zs[j]) (by simp [hj'])
  rw [hn]
  have hbj := hr.1 zs[j] (List.getElem_mem hj')
  simp
  omega)
 simpa [toStr] using this
set_option maxRecDepth 100000 in
set_option maxHeartbeats 400000 in
theorem rtext_ok {w : World} {r : Nat} {ao : Option Addr} {N cap : Nat} {xs : List Int} {pos : Nat} (most : Int) (h : RInv w r ao N cap xs pos 0) (hm0 : -9223372036854775808 <= most) (hm1 : most <= 9223372036854775807) (n s : Nat) (hc : countS xs pos 1 most = ((n : Int), (s : Int), 0)) :
  Calls Tryz.prog 75 #[.pointer (some ⟨r, 0, none⟩), .int .i64 most] w fun x w' => ∃ str : ByteArray, x = .returned (.string str) /\ strBytes str = (xs.drop (pos + s)).take n /\ RInv w' r ao N cap xs (pos + s + n) 0 /\ ROnly w w' r := by
 obtain ⟨_, f2⟩ := countS_facts xs h.row.1 pos h.pos 1 most n s 0 hc
 obtain ⟨g0, g1, g2, g3, g4, g5, g6, g7⟩ := f2 rfl
 have HC : Hid _ := hc
 have hs0 : ((s : Int) == 0) = false := by simp; omega
 have hspos : 0 < s := by omega
 have hq : pos + s + n <= xs.length := by simp at g6; omega
 have hl1 : (1 : Int) <= 9223372036854775807 := by decide
 have hps := h.pos
 have hlm := h.lim
 have hrl := h.lt
 have hN := h.len
 have hcp := h.cap
 have hqN : pos + s + n <= N := by omega
 have hqC : pos + s + n <= cap := by omega
 have hNl : N <= 140737488355328 := by omega
 clear hc f2 g0 g1 g2 g3 g5 g6 g7 hN hcp
 go_enter Tryz.func75, Tryz.ntmps75
 go_wp2_with (go_at_call 105; refine (pcount_eq 1 most h hm0 hm1 hl1 n s 0 HC.out).mono ?_; rintro e w2 ⟨rfl, hR2, hO2⟩; have hR3 := hR2.later (below_alloc w2 (.cells #[.int .u64 n, .int .i64 s] 169)); have hr2 := hR2.lt; have c2 := hR3.c2; have f2 := hR3.f2)
 go_quiet (fail)
 go_wp2
 obtain ⟨g, hao⟩ : ∃ g, ao = some ⟨g, 0, none⟩ := by
  rcases h.shape with e | e
  ·obtain ⟨b, off, he, _⟩ := h.row.2 (fun e' => by subst e'; simp at hq; omega)
   rw [e] at he; cases he
  ·exact e
 subst hao
 have hx4 := (hR3.drewN nq).setPos (pos + s + n) hq
 rw [Int.natCast_add, Int.natCast_add] at hx4
 have hO4 := (hO2.trans (ROnly.ofBelow (below_drewN (below_alloc w2 (.cells #[.int .u64 n, .int .i64 s] 169)) nq))).trans (ROnly.set _ r 2 (.int .i64 ((pos : Int) + s + n)))
 generalize (((w2.alloc (.cells #[.int .u64 n, .int .i64 s] 169)).drewN nq).setCell ⟨r, 2, none⟩ (.int .i64 ((pos : Int) + s + n))) = W at *
 obtain ⟨ad, c', hsl, hrow⟩ := slice_mid g N cap (pos + s) n (by have := h.len; omega) (by have := h.len; have := h.cap; omega)
 rw [Int.natCast_add] at hsl
 have hrw := fun m => hrow (W.drewN m) xs (hx4.drewN m).row hx4.len.symm
 have hzl : ((xs.drop (pos + s)).take n).length = n := by simp; omega
 have hcv := fun m => conv_str (W.drewN m) ad c' _ (hrw m)
 rw [hzl] at hcv
 have k1 := hx4.c1
 have k2 := hx4.c2
 have FB : Hid _ := toStr_bytes _ (hrw 0).1
 generalize toStr ((xs.drop (pos + s)).take n) = str at *
 clear hrow hrw hzl hR3 c2 f2 hR2 hO2
 go_quiet (fail)
 go_wp2
 go_ret
 exact ⟨str, rfl, FB.out, hx4.drewN _, hO4.trans (ROnly.ofBelow (below_drewN (Below.refl _ _) _))⟩
end Go.Proofs.YtobhemaikomdaaaGreatDoor.C
namespace Go.Proofs.YtobhemaikomdaaaGreatDoor.C
set_option linter.unusedVariables false
open Go.RowKit
theorem takeS_err {xs : List Int} (hb : isBytes xs) {pos : Nat} (hpos : pos <= xs.length) {most n : Int} {p : Nat} {e : Int} (h : takeS xs pos 0 most = (n, p, e)) (he : e ≠ 0) : n = 0 /\ pos = p /\ e ≠ 12 := by
 rw [takeS, if_neg (by simp)] at h
 by_cases h1 : (peekS xs pos most).2.2 ≠ 0
 ·rw [if_pos h1] at h
  simp only [Prod.mk.injEq] at h
  obtain ⟨rfl, rfl, rfl⟩ := h
  refine ⟨rfl, rfl, ?_⟩
  obtain ⟨n1, s1, e1, hp⟩ : ∃ n s e, parse (xs.drop pos) = (n, s, e) := ⟨_, _, _, rfl⟩
  obtain ⟨hf, _⟩ := parse_facts (xs.drop pos) (isBytes_drop hb pos) n1 s1 e1 hp
  rw [peekS, hp]
  by_cases q1 : e1 = 0
  ·subst q1
   rw [if_neg (by simp)]
   by_cases q2 : most < n1
   ·rw [if_pos q2]; simp
   ·rw [if_neg q2]; simp
  ·rw [if_pos q1]
   show e1 ≠ 12
   omega
 ·rw [if_neg h1] at h
  simp only [Prod.mk.injEq] at h
  exact absurd h.2.2.symm he
theorem takeS_ok {xs : List Int} (hb : isBytes xs) {pos : Nat} (hpos : pos <= xs.length) {most n : Int} {p : Nat} (h : takeS xs pos 0 most = (n, p, 0)) : 0 <= n /\ n <= most /\ n <= 18446744073709551615 /\ pos < p /\ p <= xs.length /\ xs.take p = xs.take pos ++ enc 10 n := by
 rw [takeS, if_neg (by simp)] at h
 obtain ⟨n1, s1, e1, hp⟩ : ∃ n s e, peekS xs pos most = (n, s, e) := ⟨_, _, _, rfl⟩
 obtain ⟨_, f2⟩ := peekS_facts xs hb pos hpos most n1 s1 e1 hp
 rw [hp] at h
 by_cases h1 : e1 = 0
 ·subst h1
  rw [if_neg (by simp)] at h
  simp only [Prod.mk.injEq, and_true] at h
  obtain ⟨rfl, rfl⟩ := h
  obtain ⟨g1, g2, g3, g4, g5, g6, g7⟩ := f2 rfl
  obtain ⟨_, _, r, hr, hs⟩ := parse_back (xs.drop pos) (isBytes_drop hb pos) n1 s1 g7
  refine ⟨g4, g5, by omega, by omega, by omega, ?_⟩
  have e : s1.toNat = (enc 10 n1).length := by omega
  rw [e, List.take_add, hr, List.take_left]
 ·rw [if_pos h1] at h
  simp only [Prod.mk.injEq] at h
  exact absurd h.2.2 h1
theorem WInv.drewN {w : World} {p q : Nat} {v : Value} {xs : List Int} {err : Int} (h : WInv w p q v xs err) (n : Nat) : WInv (w.drewN n) p q v xs err := h.still fun _ => rfl
theorem rend_eq {w : World} {r : Nat} {ao : Option Addr} {N cap : Nat} {xs : List Int} {pos : Nat} {err : Int} (h : RInv w r ao N cap xs pos err) (a b : Int) (he : endS xs pos err = (a, b)) :
  Calls Tryz.prog 40 #[.pointer (some ⟨r, 0, none⟩)] w fun x w' => x = .returned (.tuple #[.int .i64 a, .int .i64 b]) /\ ∃ n, w' = w.drewN n := by
 have := rend_any h
 rw [he] at this
 exact this
end Go.Proofs.YtobhemaikomdaaaGreatDoor.C
namespace Go.Proofs.YtobhemaikomdaaaGreatDoor.C
set_option linter.unusedVariables false
open Go.RowKit
structure PutV where
 what : Int
 V : Int
 N : Int
 s : ByteArray
def PutV.none : PutV := ⟨0, 0, 0, .empty⟩
structure PutV.ok (p : PutV) : Prop where
 w0 : -9223372036854775808 <= p.what
 w1 : p.what <= 9223372036854775807
 v0 : 0 <= p.V
 v1 : p.V <= 18446744073709551615
 n0 : -9223372036854775808 <= p.N
 n1 : p.N <= 9223372036854775807
 s1 : p.s.size <= 2000000
def PutsAt (w : World) (ao : Option Addr) (ps : List PutV) : Prop :=
 (∀ p ∈ ps, p.ok) /\ (ps ≠ [] -> ∃ b off, ao = some ⟨b, off, Option.none⟩ /\ ∀ i, i < ps.length ->
  w.cell? ⟨b, off + i * 4, Option.none⟩ = some (.int .i64 (ps.getD i .none).what) /\ w.cell? ⟨b, off + i * 4 + 1, Option.none⟩ = some (.int .u64 (ps.getD i .none).V) /\
  w.cell? ⟨b, off + i * 4 + 2, Option.none⟩ = some (.int .i64 (ps.getD i .none).N) /\ w.cell? ⟨b, off + i * 4 + 3, Option.none⟩ = some (.string (ps.getD i .none).s))
theorem PutsAt.later {w w' : World} {ao : Option Addr} {ps : List PutV} (h : PutsAt w ao ps) (hb : Below w.heap.size w w') : PutsAt w' ao ps := by
 refine ⟨h.1, fun hne => ?_⟩
 obtain ⟨b, off, he, hc⟩ := h.2 hne
 refine ⟨b, off, he, fun i hi => ?_⟩
 obtain ⟨c0, c1, c2, c3⟩ := hc i hi
 exact ⟨(hb.cell (p := ⟨b, off + i * 4, Option.none⟩) (World.block_lt_of_cell? w _ c0)).trans c0, (hb.cell (p := ⟨b, off + i * 4 + 1, Option.none⟩) (World.block_lt_of_cell? w _ c1)).trans c1, (hb.cell (p := ⟨b, off + i * 4 + 2, Option.none⟩) (World.block_lt_of_cell? w _ c2)).trans c2, (hb.cell (p := ⟨b, off + i * 4 + 3, Option.none⟩) (World.block_lt_of_cell? w _ c3)).trans c3⟩
theorem strBytes_inj {a b : ByteArray} (h : strBytes a = strBytes b) : a = b := by
 have : a.data.toList = b.data.toList := by
  unfold strBytes at h
  apply List.ext_getElem?
  intro i
  have hi := congrArg (·[i]?) h
  simp only [List.getElem?_map] at hi
  cases ha : a.data.toList[i]? <;> cases hb : b.data.toList[i]? <;> simp [ha, hb] at hi ⊢
  exact UInt8.toNat_inj.1 (by omega)
 cases a; cases b
 simp at this
 rw [this]
end Go.Proofs.YtobhemaikomdaaaGreatDoor.C
namespace Go.Proofs.YtobhemaikomdaaaGreatDoor.C
set_option linter.unusedVariables false
open Go.RowKit
theorem takeS_enc (zs : List Int) (pos : Nat) (most n : Int) (t : List Int) (h : zs.drop pos = enc 10 n ++ t) (h0 : 0 <= n) (h1 : n < 18446744073709551616) (h2 : n <= most) : takeS zs pos 0 most = (n, pos + (enc 10 n).length, 0) := by
 have hp := parse_enc n t h0 h1
 have hk : peekS zs pos most = (n, ((enc 10 n).length : Int), 0) := by
  rw [peekS, h, hp, if_neg (by simp), if_neg (by simpa using h2)]
 rw [takeS, if_neg (by simp), hk, if_neg (by simp)]
 simp
end Go.Proofs.YtobhemaikomdaaaGreatDoor.C
