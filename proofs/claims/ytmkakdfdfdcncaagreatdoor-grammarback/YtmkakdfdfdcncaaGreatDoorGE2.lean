import Derived.Test.YtmkakdfdfdcncaaGreatDoorGE1
import Derived.Test.YtmkakdfdfdcncaaGreatDoorRMore2
namespace Go.Proofs.YtmkakdfdfdcncaaGreatDoor
set_option linter.unusedVariables false
open Go.RowKit

/-- What a reading leaves. -/
abbrev XE (wr : World) (r : Nat) (ao : Option Addr) (N cap : Nat) (zs : List Int) (p : Nat) (er : Int) (val : Value) (e : Ending) (w' : World) : Prop := e = .returned val ∧ C.RInv w' r ao N cap zs p er ∧ C.ROnly wr w' r
section
variable {wr : World} {r : Nat} {ao : Option Addr} {N cap : Nat} {zs : List Int} {pos : Nat} {err : Int}
theorem xint (h : C.RInv wr r ao N cap zs pos err) (n : Int) (p : Nat) (e : Int) (hn : itS zs pos err = (n, p, e)) :
    Calls Tryz.prog 156 #[.pointer (some ⟨r, 0, none⟩), .int .i64 2147483647] wr (XE wr r ao N cap zs p e (.int .i64 n)) := by
  have q := take_range h.row.1 2147483647 (by omega) pos h.pos err
  have hn' : C.takeS zs pos err 2147483647 = (n, p, e) := hn
  rw [hn'] at q
  exact C.rint_any 2147483647 h (by omega) (by omega) n p e hn' q.1 (by have := q.2; simp only at this; omega)
theorem xsg (h : C.RInv wr r ao N cap zs pos err) (n : Int) (p : Nat) (e : Int) (hn : sgS zs pos err = (n, p, e)) :
    Calls Tryz.prog 199 #[.pointer (some ⟨r, 0, none⟩), .int .i64 2147483647] wr (XE wr r ao N cap zs p e (.int .i64 n)) := by
  have q := take_range h.row.1 4294967294 (by omega) pos h.pos err
  obtain ⟨m, p', e', hm⟩ : ∃ m p' e', C.takeS zs pos err 4294967294 = (m, p', e') := ⟨_, _, _, rfl⟩
  rw [sgS, hm] at hn
  simp only [Prod.mk.injEq] at hn
  obtain ⟨rfl, rfl, rfl⟩ := hn
  rw [hm] at q
  have f1 : C.foldS 2147483647 = 4294967294 := by unfold C.foldS; simp
  exact C.rsigned_any 2147483647 h (by omega) (by omega) m p' e' (by rw [f1]; exact hm) q.1 (by have := q.2; simp only at this; omega)
theorem xct (h : C.RInv wr r ao N cap zs pos err) (n p : Nat) (e : Int) (hn : ctS zs pos err = (n, p, e)) :
    Calls Tryz.prog 192 #[.pointer (some ⟨r, 0, none⟩), .int .i64 1, .int .i64 2147483647] wr (XE wr r ao N cap zs p e (.int .i64 (n : Int))) := by
  by_cases he : err = 0
  · subst he
    obtain ⟨m, s, x, hc⟩ : ∃ m s x, C.countS zs pos 1 2147483647 = (m, s, x) := ⟨_, _, _, rfl⟩
    obtain ⟨f1, f2⟩ := C.countS_facts zs h.row.1 pos h.pos 1 2147483647 m s x hc
    rw [ctS, if_neg (by simp), hc] at hn
    by_cases hx : x = 0
    · subst hx
      obtain ⟨_, g1, _, _, g4, _⟩ := f2 rfl
      rw [if_neg (by simp)] at hn
      simp only [Prod.mk.injEq] at hn
      obtain ⟨rfl, rfl, rfl⟩ := hn
      have es : ((s.toNat : Nat) : Int) = s := Int.toNat_of_nonneg (by omega)
      have em : ((m.toNat : Nat) : Int) = m := Int.toNat_of_nonneg g4
      rw [em]
      exact C.count_ok 1 2147483647 h (by omega) (by omega) (by omega) m s.toNat (by rw [es]; exact hc)
    · rw [if_pos hx] at hn
      simp only [Prod.mk.injEq] at hn
      obtain ⟨rfl, rfl, rfl⟩ := hn
      obtain ⟨rfl, rfl⟩ := f1 hx
      exact C.count_err 1 2147483647 h (by omega) (by omega) (by omega) x hc
  · rw [ctS, if_pos he] at hn
    simp only [Prod.mk.injEq] at hn
    obtain ⟨rfl, rfl, rfl⟩ := hn
    exact C.count_none 1 2147483647 h (by simpa using he) (by omega) (by omega)
theorem xtx (h : C.RInv wr r ao N cap zs pos err) (s : ByteArray) (p : Nat) (e : Int) (hn : txS zs pos err = (s, p, e)) :
    Calls Tryz.prog 194 #[.pointer (some ⟨r, 0, none⟩), .int .i64 65536] wr (XE wr r ao N cap zs p e (.string s)) := by
  by_cases he : err = 0
  · subst he
    obtain ⟨m, z, x, hc⟩ : ∃ m z x, C.countS zs pos 1 65536 = (m, z, x) := ⟨_, _, _, rfl⟩
    obtain ⟨f1, f2⟩ := C.countS_facts zs h.row.1 pos h.pos 1 65536 m z x hc
    rw [txS, if_neg (by simp), hc] at hn
    by_cases hx : x = 0
    · subst hx
      obtain ⟨_, g1, _, _, g4, _⟩ := f2 rfl
      rw [if_neg (by simp)] at hn
      simp only [Prod.mk.injEq] at hn
      obtain ⟨rfl, rfl, rfl⟩ := hn
      have es : ((z.toNat : Nat) : Int) = z := Int.toNat_of_nonneg (by omega)
      have em : ((m.toNat : Nat) : Int) = m := Int.toNat_of_nonneg g4
      have hb : C.isBytes ((zs.drop (pos + z.toNat)).take m.toNat) := fun x hx => h.row.1 x (List.mem_of_mem_drop (List.mem_of_mem_take hx))
      refine (C.rtext_ok 65536 h (by omega) (by omega) m.toNat z.toNat (by rw [es, em]; exact hc)).mono ?_
      rintro e w' ⟨str, rfl, hs, hR, hO⟩
      obtain rfl := C.strBytes_inj (hs.trans (C.toStr_bytes _ hb).symm)
      exact ⟨rfl, hR, hO⟩
    · rw [if_pos hx] at hn
      simp only [Prod.mk.injEq] at hn
      obtain ⟨rfl, rfl, rfl⟩ := hn
      obtain ⟨rfl, rfl⟩ := f1 hx
      exact C.rtext_err 65536 h (by omega) (by omega) x hc
  · rw [txS, if_pos he] at hn
    simp only [Prod.mk.injEq] at hn
    obtain ⟨rfl, rfl, rfl⟩ := hn
    exact C.rtext_none 65536 h (by simpa using he) (by omega)
theorem xname (h : C.RInv wr r ao N cap zs pos err) (s : ByteArray) (p : Nat) (e : Int) (hn : txS zs pos err = (s, p, e)) :
    Calls Tryz.prog 155 #[.pointer (some ⟨r, 0, none⟩)] wr (XE wr r ao N cap zs p e (.string s)) := by
  have HC : Hid (C.RInv wr r ao N cap zs pos err ∧ txS zs pos err = (s, p, e)) := ⟨h, hn⟩
  clear h hn
  go_enter Tryz.func155, Tryz.ntmps155
  go_wp2_with (go_at_call 194; refine (xtx HC.out.1 s p e HC.out.2).mono ?_; rintro e w1 ⟨rfl, h1, o1⟩)
  go_ret
  exact ⟨rfl, h1, o1⟩
theorem xnum (h : C.RInv wr r ao N cap zs pos err) (n : Int) (p : Nat) (e : Int) (hn : itS zs pos err = (n, p, e)) :
    Calls Tryz.prog 201 #[.pointer (some ⟨r, 0, none⟩)] wr (XE wr r ao N cap zs p e (.int .i64 n)) := by
  have HC : Hid (C.RInv wr r ao N cap zs pos err ∧ itS zs pos err = (n, p, e)) := ⟨h, hn⟩
  clear h hn
  go_enter Tryz.func201, Tryz.ntmps201
  go_wp2_with (go_at_call 156; refine (xint HC.out.1 n p e HC.out.2).mono ?_; rintro e w1 ⟨rfl, h1, o1⟩)
  go_ret
  exact ⟨rfl, h1, o1⟩
end
/-- One round of a list. -/
theorem ls_go {α : Type} {R : Nat → Int → α × Nat × Int} {n k p : Nat} {e : Int} {K L : List α} {P : Nat} {E : Int} {s : α} {p' : Nat} {e' : Int} (hF : (K ++ (lsS R (n - k) p e).1, (lsS R (n - k) p e).2) = (L, P, E)) (hk : k < n) (hR : R p e = (s, p', e')) :
    (p' = p → K = L ∧ p' = P ∧ e' = E) ∧ (p' ≠ p → ((K ++ [s]) ++ (lsS R (n - (k + 1)) p' e').1, (lsS R (n - (k + 1)) p' e').2) = (L, P, E)) := by
  have e1 : n - k = (n - (k + 1)) + 1 := by omega
  rw [e1, lsS, hR] at hF
  refine ⟨fun h => ?_, fun h => ?_⟩
  · rw [if_pos h] at hF
    simp only [List.append_nil, Prod.mk.injEq] at hF
    exact ⟨hF.1, hF.2.1, hF.2.2⟩
  · rw [if_neg h] at hF
    rw [List.append_assoc]
    exact hF
theorem ls_end {α : Type} {R : Nat → Int → α × Nat × Int} {n p : Nat} {e : Int} {K L : List α} {P : Nat} {E : Int} (hF : (K ++ (lsS R (n - n) p e).1, (lsS R (n - n) p e).2) = (L, P, E)) : K = L ∧ p = P ∧ e = E := by
  rw [Nat.sub_self, lsS] at hF
  simp only [List.append_nil, Prod.mk.injEq] at hF
  exact ⟨hF.1, hF.2.1, hF.2.2⟩
/-- What a reading behind which only blocks of one's own turned leaves. -/
theorem ro_then {ws w2 w4 : World} {r : Nat} (o : C.ROnly ws w2 r) (hb : Below ws.heap.size w2 w4) : C.ROnly ws w4 r :=
  ⟨hb.os.trans o.os, hb.tape.trans o.tape, hb.output.trans o.output, Nat.le_trans o.size hb.size, fun j hj hr => (hb.block j hj).trans (o.block j hj hr)⟩
end Go.Proofs.YtmkakdfdfdcncaaGreatDoor
