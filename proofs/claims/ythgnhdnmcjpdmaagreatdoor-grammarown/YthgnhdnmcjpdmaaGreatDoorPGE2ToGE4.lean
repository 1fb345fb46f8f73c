import Derived.Test.YthgnhdnmcjpdmaaGreatDoorPGE1
import Derived.Test.YthgnhdnmcjpdmaaGreatDoorPRMoreToRMore2
import Derived.Test.YthgnhdnmcjpdmaaGreatDoorPGDec5ToGDec8
namespace Go.Proofs.YthgnhdnmcjpdmaaGreatDoor
set_option linter.unusedVariables false
set_option maxRecDepth 100000
set_option maxHeartbeats 16000000
open Go.RowKit
abbrev XE (wr : World) (r : Nat) (ao : Option Addr) (N cap : Nat) (zs : List Int) (p : Nat) (er : Int) (val : Value) (e : Ending) (w' : World) : Prop := e = .returned val /\ C.RInv w' r ao N cap zs p er /\ C.ROnly wr w' r
section
variable {wr : World} {r : Nat} {ao : Option Addr} {N cap : Nat} {zs : List Int} {pos : Nat} {err : Int}
theorem xint (h : C.RInv wr r ao N cap zs pos err) (n : Int) (p : Nat) (e : Int) (hn : itS zs pos err = (n, p, e)) :
  Calls Tryz.prog 98 #[.pointer (some ⟨r, 0, none⟩), .int .i64 2147483647] wr (XE wr r ao N cap zs p e (.int .i64 n)) := by
 have q := take_range h.row.1 2147483647 (by omega) pos h.pos err
 have hn' : C.takeS zs pos err 2147483647 = (n, p, e) := hn
 rw [hn'] at q
 exact C.rint_any 2147483647 h (by omega) (by omega) n p e hn' q.1 (by have := q.2; simp only at this; omega)
theorem xsg (h : C.RInv wr r ao N cap zs pos err) (n : Int) (p : Nat) (e : Int) (hn : sgS zs pos err = (n, p, e)) :
  Calls Tryz.prog 135 #[.pointer (some ⟨r, 0, none⟩), .int .i64 2147483647] wr (XE wr r ao N cap zs p e (.int .i64 n)) := by
 have q := take_range h.row.1 4294967294 (by omega) pos h.pos err
 obtain ⟨m, p', e', hm⟩ : ∃ m p' e', C.takeS zs pos err 4294967294 = (m, p', e') := ⟨_, _, _, rfl⟩
 rw [sgS, hm] at hn
 simp only [Prod.mk.injEq] at hn
 obtain ⟨rfl, rfl, rfl⟩ := hn
 rw [hm] at q
 have f1 : C.foldS 2147483647 = 4294967294 := by unfold C.foldS; simp
 exact C.rsigned_any 2147483647 h (by omega) (by omega) m p' e' (by rw [f1]; exact hm) q.1 (by have := q.2; simp only at this; omega)
theorem xct (h : C.RInv wr r ao N cap zs pos err) (n p : Nat) (e : Int) (hn : ctS zs pos err = (n, p, e)) :
  Calls Tryz.prog 128 #[.pointer (some ⟨r, 0, none⟩), .int .i64 1, .int .i64 2147483647] wr (XE wr r ao N cap zs p e (.int .i64 (n : Int))) := by
 by_cases he : err = 0
 ·subst he
  obtain ⟨m, s, x, hc⟩ : ∃ m s x, C.countS zs pos 1 2147483647 = (m, s, x) := ⟨_, _, _, rfl⟩
  obtain ⟨f1, f2⟩ := C.countS_facts zs h.row.1 pos h.pos 1 2147483647 m s x hc
  rw [ctS, if_neg (by simp), hc] at hn
  by_cases hx : x = 0
  ·subst hx
   obtain ⟨_, g1, _, _, g4, _⟩ := f2 rfl
   rw [if_neg (by simp)] at hn
   simp only [Prod.mk.injEq] at hn
   obtain ⟨rfl, rfl, rfl⟩ := hn
   have es : ((s.toNat : Nat) : Int) = s := Int.toNat_of_nonneg (by omega)
   have em : ((m.toNat : Nat) : Int) = m := Int.toNat_of_nonneg g4
   rw [em]
   exact C.count_ok 1 2147483647 h (by omega) (by omega) (by omega) m s.toNat (by rw [es]; exact hc)
  ·rw [if_pos hx] at hn
   simp only [Prod.mk.injEq] at hn
   obtain ⟨rfl, rfl, rfl⟩ := hn
   obtain ⟨rfl, rfl⟩ := f1 hx
   exact C.count_err 1 2147483647 h (by omega) (by omega) (by omega) x hc
 ·rw [ctS, if_pos he] at hn
  simp only [Prod.mk.injEq] at hn
  obtain ⟨rfl, rfl, rfl⟩ := hn
  exact C.count_none 1 2147483647 h (by simpa using he) (by omega) (by omega)
theorem xtx (h : C.RInv wr r ao N cap zs pos err) (s : ByteArray) (p : Nat) (e : Int) (hn : txS zs pos err = (s, p, e)) :
  Calls Tryz.prog 130 #[.pointer (some ⟨r, 0, none⟩), .int .i64 65536] wr (XE wr r ao N cap zs p e (.string s)) := by
 by_cases he : err = 0
 ·subst he
  obtain ⟨m, z, x, hc⟩ : ∃ m z x, C.countS zs pos 1 65536 = (m, z, x) := ⟨_, _, _, rfl⟩
  obtain ⟨f1, f2⟩ := C.countS_facts zs h.row.1 pos h.pos 1 65536 m z x hc
  rw [txS, if_neg (by simp), hc] at hn
  by_cases hx : x = 0
  ·subst hx
   obtain ⟨_, g1, _, _, g4, _⟩ := f2 rfl
   rw [if_neg (by simp)] at hn
   simp only [Prod.mk.injEq] at hn
   obtain ⟨rfl, rfl, rfl⟩ := hn
   have es : ((z.toNat : Nat) : Int) = z := Int.toNat_of_nonneg (by omega)
   have em : ((m.toNat : Nat) : Int) = m := Int.toNat_of_nonneg g4
   have hb : C.isBytes ((zs.drop (pos + z.toNat)).take m.toNat) := fun x hx => h.row.1 x (List.mem_of_mem_drop (List.mem_of_mem_take hx))
   refine (C.rtext_ok 65536 h (by omega) (by omega) m.toNat z.toNat (by rw [es, em]; exact hc)).mono ?_
   rintro e w' ⟨str, rfl, hs, hR, hO⟩
   obtain rfl := C.strBytes_inj (hs.trans (C.toStr_bytes _ hb).symm)
   exact ⟨rfl, hR, hO⟩
  ·rw [if_pos hx] at hn
   simp only [Prod.mk.injEq] at hn
   obtain ⟨rfl, rfl, rfl⟩ := hn
   obtain ⟨rfl, rfl⟩ := f1 hx
   exact C.rtext_err 65536 h (by omega) (by omega) x hc
 ·rw [txS, if_pos he] at hn
  simp only [Prod.mk.injEq] at hn
  obtain ⟨rfl, rfl, rfl⟩ := hn
  exact C.rtext_none 65536 h (by simpa using he) (by omega)
theorem xname (h : C.RInv wr r ao N cap zs pos err) (s : ByteArray) (p : Nat) (e : Int) (hn : txS zs pos err = (s, p, e)) :
  Calls Tryz.prog 97 #[.pointer (some ⟨r, 0, none⟩)] wr (XE wr r ao N cap zs p e (.string s)) := by
 have HC : Hid (C.RInv wr r ao N cap zs pos err /\ txS zs pos err = (s, p, e)) := ⟨h, hn⟩
 clear h hn
 go_enter Tryz.func97, Tryz.ntmps97
 go_wp2_with (go_at_call 130; refine (xtx HC.out.1 s p e HC.out.2).mono ?_; rintro e w1 ⟨rfl, h1, o1⟩)
 go_ret
 exact ⟨rfl, h1, o1⟩
theorem xnum (h : C.RInv wr r ao N cap zs pos err) (n : Int) (p : Nat) (e : Int) (hn : itS zs pos err = (n, p, e)) :
  Calls Tryz.prog 137 #[.pointer (some ⟨r, 0, none⟩)] wr (XE wr r ao N cap zs p e (.int .i64 n)) := by
 have HC : Hid (C.RInv wr r ao N cap zs pos err /\ itS zs pos err = (n, p, e)) := ⟨h, hn⟩
 clear h hn
 go_enter Tryz.func137, Tryz.ntmps137
 go_wp2_with (go_at_call 98; refine (xint HC.out.1 n p e HC.out.2).mono ?_; rintro e w1 ⟨rfl, h1, o1⟩)
 go_ret
 exact ⟨rfl, h1, o1⟩
end
theorem ls_go {α : Type} {R : Nat -> Int -> α × Nat × Int} {n k p : Nat} {e : Int} {K L : List α} {P : Nat} {E : Int} {s : α} {p' : Nat} {e' : Int} (hF : (K ++ (lsS R (n - k) p e).1, (lsS R (n - k) p e).2) = (L, P, E)) (hk : k < n) (hR : R p e = (s, p', e')) :
  (p' = p -> K = L /\ p' = P /\ e' = E) /\ (p' ≠ p -> ((K ++ [s]) ++ (lsS R (n - (k + 1)) p' e').1, (lsS R (n - (k + 1)) p' e').2) = (L, P, E)) := by
 have e1 : n - k = (n - (k + 1)) + 1 := by omega
 rw [e1, lsS, hR] at hF
 refine ⟨fun h => ?_, fun h => ?_⟩
 ·rw [if_pos h] at hF
  simp only [List.append_nil, Prod.mk.injEq] at hF
  exact ⟨hF.1, hF.2.1, hF.2.2⟩
 ·rw [if_neg h] at hF
  rw [List.append_assoc]
  exact hF
theorem ls_end {α : Type} {R : Nat -> Int -> α × Nat × Int} {n p : Nat} {e : Int} {K L : List α} {P : Nat} {E : Int} (hF : (K ++ (lsS R (n - n) p e).1, (lsS R (n - n) p e).2) = (L, P, E)) : K = L /\ p = P /\ e = E := by
 rw [Nat.sub_self, lsS] at hF
 simp only [List.append_nil, Prod.mk.injEq] at hF
 exact ⟨hF.1, hF.2.1, hF.2.2⟩
theorem ro_then {ws w2 w4 : World} {r : Nat} (o : C.ROnly ws w2 r) (hb : Below ws.heap.size w2 w4) : C.ROnly ws w4 r :=
 ⟨hb.os.trans o.os, hb.tape.trans o.tape, hb.output.trans o.output, Nat.le_trans o.size hb.size, fun j hj hr => (hb.block j hj).trans (o.block j hj hr)⟩
theorem xl_str {wr : World} {r : Nat} {ao : Option Addr} {N cap : Nat} {zs : List Int} {pos : Nat} {err : Int} (h : C.RInv wr r ao N cap zs pos err) (hg : ∀ g, ao = some ⟨g, 0, none⟩ -> g < wr.heap.size) (hz : zs.length <= 16777216) (L : List ByteArray) (P : Nat) (E : Int) (hL : liS zs (txS zs) pos err = (L, P, E)) :
  Calls Tryz.prog 96 #[.pointer (some ⟨r, 0, none⟩), .func (.func 97) #[] #[]] wr fun e w' => ∃ a c, e = .returned (.slice a L.length c) /\ GS w' (.slice a L.length c) L /\ (∀ k, (Value.slice a L.length c).ownBlock = some k -> wr.heap.size <= k) /\ C.RInv w' r ao N cap zs P E /\ C.ROnly wr w' r := by
 obtain ⟨n, p1, e1, hc⟩ : ∃ n p1 e1, ctS zs pos err = (n, p1, e1) := ⟨_, _, _, rfl⟩
 have HCT : Hid (ctS zs pos err = (n, p1, e1)) := hc
 have HLS : Hid (lsS (txS zs) n p1 e1 = (L, P, E)) := by show _ = _; rw [liS, hc] at hL; exact hL
 have HZ : Hid (zs.length <= 16777216) := hz
 have HRD : Hid (Rd1 zs (txS zs) encS) := rd_tx h.row.1
 have HG : Hid (∀ g, ao = some ⟨g, 0, none⟩ -> g < wr.heap.size) := hg
 have HI : Hid (C.RInv wr r ao N cap zs pos err) := h
 have HLR : Hid (r < wr.heap.size) := h.lt
 obtain ⟨ws, HWS⟩ : ∃ ws : World, Hid (ws = wr) := ⟨_, rfl⟩
 clear h hg hL hc hz
 go_enter Tryz.func96, Tryz.ntmps96
 go_wp2_with (go_at_call 128; refine (xct HI.out n p1 e1 HCT.out).mono ?_; rintro e w1 ⟨rfl, h1', o1'⟩; have h1 : Hid (C.RInv w1 r ao N cap zs p1 e1) := h1'; have o1 : Hid (C.ROnly ws w1 r) := (by rw [HWS.out]; exact o1'); clear h1' o1')
 go_loopw [5, 10] (fun v z wr => ∃ (k : Nat) (K : List ByteArray) (p : Nat) (e : Int), k <= n /\ z = .int .i64 k /\ K.length = k /\ k <= p /\ GS wr v K /\ (∀ j, v.ownBlock = some j -> ws.heap.size <= j) /\ C.RInv wr r ao N cap zs p e /\ C.ROnly ws wr r /\ (K ++ (lsS (txS zs) (n - k) p e).1, (lsS (txS zs) (n - k) p e).2) = (L, P, E)) (fun _ z _ => n - (intOf z).toNat)
 case atStart => exact ⟨0, [], p1, e1, Nat.zero_le _, rfl, rfl, Nat.zero_le _, GS.nil _, (fun j hj => by simp [Value.ownBlock] at hj), h1.out, o1.out, HLS.out⟩
 case round =>
  clear h1 o1
  obtain ⟨k, K, p, e, hk, rfl, hKl, hkp, hS', hv', hR', hO', hF'⟩ := hrel
  obtain ⟨va, vc, rfl⟩ := gs_len hS'
  rw [hKl] at hS' hv'
  rw [hKl]
  have HKL : Hid (K.length = k /\ k <= p) := ⟨hKl, hkp⟩
  have HPZ : Hid (p <= zs.length) := hR'.pos
  have HS : Hid (GS wr (.slice va k vc) K) := hS'
  have HV : Hid (∀ j, (Value.slice va k vc).ownBlock = some j -> ws.heap.size <= j) := hv'
  have HR : Hid (C.RInv wr r ao N cap zs p e) := hR'
  have HO : Hid (C.ROnly ws wr r) := hO'
  have HF : Hid ((K ++ (lsS (txS zs) (n - k) p e).1, (lsS (txS zs) (n - k) p e).2) = (L, P, E)) := hF'
  have hkz : k <= 16777216 := by have := HZ.out; have := hR'.pos; omega
  have HTL : Hid (K.length <= 100000000) := by show _ <= _; omega
  clear hS' hv' hR' hO' hF' hKl hkp
  by_cases hlt : k < n
  ·have klt : (k : Int) < (n : Int) := by omega
   obtain ⟨s, p', e', hR⟩ : ∃ s p' e', txS zs p e = (s, p', e') := ⟨_, _, _, rfl⟩
   have HRR : Hid (txS zs p e = (s, p', e')) := hR
   have HMO : Hid (p <= p' /\ p' <= zs.length) := by have := HRD.out.mono p e HPZ.out; rw [hR] at this; exact this
   have HGO : Hid ((p' = p -> K = L /\ p' = P /\ e' = E) /\ (p' ≠ p -> ((K ++ [s]) ++ (lsS (txS zs) (n - (k + 1)) p' e').1, (lsS (txS zs) (n - (k + 1)) p' e').2) = (L, P, E))) := ls_go HF.out hlt hR
   have ARd : Hid (∀ w', C.ROnly wr w' r -> GS w' (.slice va k vc) K) := fun w' ho => HS.out.kept fun j hj => ho.block j (HS.out.lt j hj) (fun e => by have := HV.out j hj; have := HLR.out; have := HWS.out; subst this; omega)
   clear hR
   by_cases hpp : p' = p
   ·obtain ⟨eL, eP, eE⟩ := HGO.out.1 hpp
    subst hpp
    have HEQ : Hid (K = L /\ p' = P /\ e' = E) := ⟨eL, eP, eE⟩
    clear eL eP eE
    have t1 : (((p' : Nat) : Int) == (p' : Int)) = true := by simp
    go_wp2_with (first
     | (go_at_call 129; guard_hyp HR : Hid (C.RInv wr r ao N cap zs p' e); refine (C.rat_any HR.out).mono ?_; rintro e w' ⟨rfl, rfl⟩; have HR0 : Hid (C.RInv wr r ao N cap zs p' _) := HR; clear HR)
     | (go_at_call 97; refine (xname HR0.out s p' e' HRR.out).mono ?_; rintro e w2 ⟨rfl, h2', o2'⟩; have h2 : Hid (C.RInv w2 r ao N cap zs p' e') := h2'; have o2 : Hid (C.ROnly ws w2 r) := HO.out.trans o2'; have S2 : Hid (GS w2 (.slice va k vc) K) := ARd.out w2 o2'; clear h2' o2')
     | (go_at_call 129; refine (C.rat_any h2.out).mono ?_; rintro e w' ⟨rfl, rfl⟩))
    go_ret
    have hws := HWS.out
    subst hws
    obtain ⟨rfl, rfl, rfl⟩ := HEQ.out
    have hkl := HKL.out.1
    subst hkl
    exact ⟨va, vc, rfl, S2.out, HV.out, h2.out, o2.out⟩
   ·have t1 : (((p' : Nat) : Int) == (p : Int)) = false := by simp only [beq_eq_false_iff_ne, ne_eq]; omega
    go_wp2_with (first
     | (go_at_call 129; guard_hyp HR : Hid (C.RInv wr r ao N cap zs p e); refine (C.rat_any HR.out).mono ?_; rintro e w' ⟨rfl, rfl⟩; have HR0 : Hid (C.RInv wr r ao N cap zs p _) := HR; clear HR)
     | (go_at_call 97; refine (xname HR0.out s p' e' HRR.out).mono ?_; rintro e w2 ⟨rfl, h2', o2'⟩; have h2 : Hid (C.RInv w2 r ao N cap zs p' e') := h2'; have o2 : Hid (C.ROnly ws w2 r) := HO.out.trans o2'; have S2 : Hid (GS w2 (.slice va k vc) K) := ARd.out w2 o2'; clear h2' o2')
     | (go_at_call 129; refine (C.rat_any h2.out).mono ?_; rintro e w' ⟨rfl, rfl⟩)
     | (at_builtin; refine wpList_gs_append_w rfl _ _ rfl _ K rfl (S2.out.later (below_alloc w2 _)) w2.heap.size 1 s rfl (by simp) HTL.out ?_; intro a4 n4 c4 w4 ho4 hg4))
    go_roundw
    case rel =>
     have hsz : ws.heap.size <= w2.heap.size := o2.out.size
     have hb1 : Below w2.heap.size w2 (w2.alloc (.cells #[.string s] 9)) := below_alloc w2 _
     have hb2 : Below ws.heap.size (w2.alloc (.cells #[.string s] 9)) w4 := (Below.refl _ _).grown hg4.grown (Nat.le_trans hsz hb1.size) HV.out
     have hb3 : Below ws.heap.size w2 w4 := (hb1.mono hsz).trans hb2
     have hws := HWS.out
     have hmo := HMO.out
     have hkl := HKL.out
     refine ⟨k + 1, K ++ [s], p', e', by omega, by go_num, by simp [hkl.1], by omega, ho4, ?_, ?_, ro_then o2.out hb3, HGO.out.2 hpp⟩
     ·intro j hj
      rcases hg4.moved with e | ⟨z, e, hz⟩
      ·exact HV.out j (e ▸ hj)
      ·rw [hj] at e; have := Option.some.inj e; have := hb1.size; omega
     ·exact rinv_kept2 h2.out (hb3.block r (by rw [hws]; exact HLR.out)) (fun g eg => hb3.block g (by rw [hws]; exact HG.out g eg))
    case measure => simp [intOf]; omega
  ·obtain rfl : k = n := by omega
   obtain ⟨eL, eP, eE⟩ := ls_end HF.out
   have HEQ : Hid (K = L /\ p = P /\ e = E) := ⟨eL, eP, eE⟩
   clear eL eP eE
   go_wp2
   go_ret
   have hws := HWS.out
   subst hws
   obtain ⟨rfl, rfl, rfl⟩ := HEQ.out
   have hkl := HKL.out.1
   subst hkl
   exact ⟨va, vc, rfl, HS.out, HV.out, HR.out, HO.out⟩
theorem xl_int {wr : World} {r : Nat} {ao : Option Addr} {N cap : Nat} {zs : List Int} {pos : Nat} {err : Int} (h : C.RInv wr r ao N cap zs pos err) (hg : ∀ g, ao = some ⟨g, 0, none⟩ -> g < wr.heap.size) (hz : zs.length <= 16777216) (L : List Int) (P : Nat) (E : Int) (hL : liS zs (itS zs) pos err = (L, P, E)) :
  Calls Tryz.prog 136 #[.pointer (some ⟨r, 0, none⟩), .func (.func 137) #[] #[]] wr fun e w' => ∃ a c, e = .returned (.slice a L.length c) /\ IL w' (.slice a L.length c) L /\ (∀ k, (Value.slice a L.length c).ownBlock = some k -> wr.heap.size <= k) /\ C.RInv w' r ao N cap zs P E /\ C.ROnly wr w' r := by
 obtain ⟨n, p1, e1, hc⟩ : ∃ n p1 e1, ctS zs pos err = (n, p1, e1) := ⟨_, _, _, rfl⟩
 have HCT : Hid (ctS zs pos err = (n, p1, e1)) := hc
 have HLS : Hid (lsS (itS zs) n p1 e1 = (L, P, E)) := by show _ = _; rw [liS, hc] at hL; exact hL
 have HZ : Hid (zs.length <= 16777216) := hz
 have HRD : Hid (Rd1 zs (itS zs) encI) := rd_in h.row.1
 have HG : Hid (∀ g, ao = some ⟨g, 0, none⟩ -> g < wr.heap.size) := hg
 have HI : Hid (C.RInv wr r ao N cap zs pos err) := h
 have HLR : Hid (r < wr.heap.size) := h.lt
 obtain ⟨ws, HWS⟩ : ∃ ws : World, Hid (ws = wr) := ⟨_, rfl⟩
 clear h hg hL hc hz
 go_enter Tryz.func136, Tryz.ntmps136
 go_wp2_with (go_at_call 128; refine (xct HI.out n p1 e1 HCT.out).mono ?_; rintro e w1 ⟨rfl, h1', o1'⟩; have h1 : Hid (C.RInv w1 r ao N cap zs p1 e1) := h1'; have o1 : Hid (C.ROnly ws w1 r) := (by rw [HWS.out]; exact o1'); clear h1' o1')
 go_loopw [5, 10] (fun v z wr => ∃ (k : Nat) (K : List Int) (p : Nat) (e : Int), k <= n /\ z = .int .i64 k /\ K.length = k /\ k <= p /\ IL wr v K /\ (∀ j, v.ownBlock = some j -> ws.heap.size <= j) /\ C.RInv wr r ao N cap zs p e /\ C.ROnly ws wr r /\ (K ++ (lsS (itS zs) (n - k) p e).1, (lsS (itS zs) (n - k) p e).2) = (L, P, E)) (fun _ z _ => n - (intOf z).toNat)
 case atStart => exact ⟨0, [], p1, e1, Nat.zero_le _, rfl, rfl, Nat.zero_le _, IL.nil _, (fun j hj => by simp [Value.ownBlock] at hj), h1.out, o1.out, HLS.out⟩
 case round =>
  clear h1 o1
  obtain ⟨k, K, p, e, hk, rfl, hKl, hkp, hS', hv', hR', hO', hF'⟩ := hrel
  obtain ⟨va, vc, rfl⟩ := il_len hS'
  rw [hKl] at hS' hv'
  rw [hKl]
  have HKL : Hid (K.length = k /\ k <= p) := ⟨hKl, hkp⟩
  have HPZ : Hid (p <= zs.length) := hR'.pos
  have HS : Hid (IL wr (.slice va k vc) K) := hS'
  have HV : Hid (∀ j, (Value.slice va k vc).ownBlock = some j -> ws.heap.size <= j) := hv'
  have HR : Hid (C.RInv wr r ao N cap zs p e) := hR'
  have HO : Hid (C.ROnly ws wr r) := hO'
  have HF : Hid ((K ++ (lsS (itS zs) (n - k) p e).1, (lsS (itS zs) (n - k) p e).2) = (L, P, E)) := hF'
  have hkz : k <= 16777216 := by have := HZ.out; have := hR'.pos; omega
  have HTL : Hid (K.length <= 100000000) := by show _ <= _; omega
  clear hS' hv' hR' hO' hF' hKl hkp
  by_cases hlt : k < n
  ·have klt : (k : Int) < (n : Int) := by omega
   obtain ⟨s, p', e', hR⟩ : ∃ s p' e', itS zs p e = (s, p', e') := ⟨_, _, _, rfl⟩
   have HRR : Hid (itS zs p e = (s, p', e')) := hR
   have HMO : Hid (p <= p' /\ p' <= zs.length) := by have := HRD.out.mono p e HPZ.out; rw [hR] at this; exact this
   have HGO : Hid ((p' = p -> K = L /\ p' = P /\ e' = E) /\ (p' ≠ p -> ((K ++ [s]) ++ (lsS (itS zs) (n - (k + 1)) p' e').1, (lsS (itS zs) (n - (k + 1)) p' e').2) = (L, P, E))) := ls_go HF.out hlt hR
   have ARd : Hid (∀ w', C.ROnly wr w' r -> IL w' (.slice va k vc) K) := fun w' ho => HS.out.kept fun j hj => ho.block j (HS.out.lt j hj) (fun e => by have := HV.out j hj; have := HLR.out; have := HWS.out; subst this; omega)
   clear hR
   by_cases hpp : p' = p
   ·obtain ⟨eL, eP, eE⟩ := HGO.out.1 hpp
    subst hpp
    have HEQ : Hid (K = L /\ p' = P /\ e' = E) := ⟨eL, eP, eE⟩
    clear eL eP eE
    have t1 : (((p' : Nat) : Int) == (p' : Int)) = true := by simp
    go_wp2_with (first
     | (go_at_call 129; guard_hyp HR : Hid (C.RInv wr r ao N cap zs p' e); refine (C.rat_any HR.out).mono ?_; rintro e w' ⟨rfl, rfl⟩; have HR0 : Hid (C.RInv wr r ao N cap zs p' _) := HR; clear HR)
     | (go_at_call 137; refine (xnum HR0.out s p' e' HRR.out).mono ?_; rintro e w2 ⟨rfl, h2', o2'⟩; have h2 : Hid (C.RInv w2 r ao N cap zs p' e') := h2'; have o2 : Hid (C.ROnly ws w2 r) := HO.out.trans o2'; have S2 : Hid (IL w2 (.slice va k vc) K) := ARd.out w2 o2'; clear h2' o2')
     | (go_at_call 129; refine (C.rat_any h2.out).mono ?_; rintro e w' ⟨rfl, rfl⟩))
    go_ret
    have hws := HWS.out
    subst hws
    obtain ⟨rfl, rfl, rfl⟩ := HEQ.out
    have hkl := HKL.out.1
    subst hkl
    exact ⟨va, vc, rfl, S2.out, HV.out, h2.out, o2.out⟩
   ·have t1 : (((p' : Nat) : Int) == (p : Int)) = false := by simp only [beq_eq_false_iff_ne, ne_eq]; omega
    go_wp2_with (first
     | (go_at_call 129; guard_hyp HR : Hid (C.RInv wr r ao N cap zs p e); refine (C.rat_any HR.out).mono ?_; rintro e w' ⟨rfl, rfl⟩; have HR0 : Hid (C.RInv wr r ao N cap zs p _) := HR; clear HR)
     | (go_at_call 137; refine (xnum HR0.out s p' e' HRR.out).mono ?_; rintro e w2 ⟨rfl, h2', o2'⟩; have h2 : Hid (C.RInv w2 r ao N cap zs p' e') := h2'; have o2 : Hid (C.ROnly ws w2 r) := HO.out.trans o2'; have S2 : Hid (IL w2 (.slice va k vc) K) := ARd.out w2 o2'; clear h2' o2')
     | (go_at_call 129; refine (C.rat_any h2.out).mono ?_; rintro e w' ⟨rfl, rfl⟩)
     | (at_builtin; refine wpList_il_append_w rfl _ _ rfl _ K rfl (S2.out.later (below_alloc w2 _)) w2.heap.size 1 s rfl (by simp) HTL.out ?_; intro a4 n4 c4 w4 ho4 hg4))
    go_roundw
    case rel =>
     have hsz : ws.heap.size <= w2.heap.size := o2.out.size
     have hb1 : Below w2.heap.size w2 (w2.alloc (.cells #[.int .i64 s] 3)) := below_alloc w2 _
     have hb2 : Below ws.heap.size (w2.alloc (.cells #[.int .i64 s] 3)) w4 := (Below.refl _ _).grown hg4.grown (Nat.le_trans hsz hb1.size) HV.out
     have hb3 : Below ws.heap.size w2 w4 := (hb1.mono hsz).trans hb2
     have hws := HWS.out
     have hmo := HMO.out
     have hkl := HKL.out
     refine ⟨k + 1, K ++ [s], p', e', by omega, by go_num, by simp [hkl.1], by omega, ho4, ?_, ?_, ro_then o2.out hb3, HGO.out.2 hpp⟩
     ·intro j hj
      rcases hg4.moved with e | ⟨z, e, hz⟩
      ·exact HV.out j (e ▸ hj)
      ·rw [hj] at e; have := Option.some.inj e; have := hb1.size; omega
     ·exact rinv_kept2 h2.out (hb3.block r (by rw [hws]; exact HLR.out)) (fun g eg => hb3.block g (by rw [hws]; exact HG.out g eg))
    case measure => simp [intOf]; omega
  ·obtain rfl : k = n := by omega
   obtain ⟨eL, eP, eE⟩ := ls_end HF.out
   have HEQ : Hid (K = L /\ p = P /\ e = E) := ⟨eL, eP, eE⟩
   clear eL eP eE
   go_wp2
   go_ret
   have hws := HWS.out
   subst hws
   obtain ⟨rfl, rfl, rfl⟩ := HEQ.out
   have hkl := HKL.out.1
   subst hkl
   exact ⟨va, vc, rfl, HS.out, HV.out, HR.out, HO.out⟩
theorem xsym1 {wr : World} {r : Nat} {ao : Option Addr} {N cap : Nat} {zs : List Int} {pos : Nat} {err : Int} (h : C.RInv wr r ao N cap zs pos err) (n : Int) (p : Nat) (e : Int) (hn : itS zs pos err = (n, p, e)) (kd : Int) (hk : kd = if n % 2 = 1 then 2 else 1) (hn0 : 0 <= n /\ n <= 2147483647) :
  Calls Tryz.prog 134 #[.pointer (some ⟨r, 0, none⟩)] wr (XE wr r ao N cap zs p e (.agg #[.int .i64 kd, .int .i64 (n / 2)])) := by
 have HO : Hid (C.ROnly wr (wr.alloc (.cells #[.int .i64 0, .int .i64 0] 30)) r) := C.ROnly.ofBelow (below_alloc wr _)
 have HC : Hid (C.RInv (wr.alloc (.cells #[.int .i64 0, .int .i64 0] 30)) r ao N cap zs pos err /\ itS zs pos err = (n, p, e)) := ⟨h.later (below_alloc wr _), hn⟩
 have hLT : Hid (r < wr.heap.size) := h.lt
 have HH : Hid (C.RInv wr r ao N cap zs pos err) := h
 have AX : Hid (∀ w1, C.ROnly (wr.alloc (.cells #[.int .i64 0, .int .i64 0] 30)) w1 r -> w1.heap[wr.heap.size]? = some (.cells #[.int .i64 0, .int .i64 0] 30 (0, 0))) := fun w1 ho => (ho.block _ (lt_of_block (heap_alloc_new wr _)) (fun e => by have := hLT.out; omega)).trans (heap_alloc_new wr _)
 clear h hn
 by_cases hm : n % 2 = 1
 ·rw [if_pos hm] at hk
  subst hk
  have t1 : (n % 2 == 1) = true := by simpa using hm
  clear hm
  go_enter Tryz.func134, Tryz.ntmps134
  go_wp2_with (go_at_call 98; refine (xint HC.out.1 n p e HC.out.2).mono ?_; rintro e w1 ⟨rfl, h1', o1'⟩; have e1 := AX.out w1 o1'; have z0 : w1.cell? ⟨wr.heap.size, 0, none⟩ = some (.int .i64 0) := (by rw [cellq_any e1]; rfl); have z1 : w1.cell? ⟨wr.heap.size, 1, none⟩ = some (.int .i64 0) := (by rw [cellq_any e1]; rfl); have y0 : w1.frozen? ⟨wr.heap.size, 0, none⟩ = false := (by simp [World.frozen?, e1]); have y1 : w1.frozen? ⟨wr.heap.size, 1, none⟩ = false := (by simp [World.frozen?, e1]); have h1 : Hid (C.RInv w1 r ao N cap zs p _) := h1'; have o1 : Hid (C.ROnly wr w1 r) := HO.out.trans o1'; have hz1 : wr.heap.size < w1.heap.size := lt_of_block e1; clear h1' o1' e1)
  refine bodyPost_ret (v := .agg #[.int .i64 2, .int .i64 (n / 2)]) (by simp [results, Tryz.results134, go_sem, z0, z1]) rfl ?_
  exact ⟨rfl, HH.out.patched h1.out (C.two_sets _ _ _ _), o1.out.patched (C.two_sets _ _ _ _)⟩
 ·rw [if_neg hm] at hk
  subst hk
  have t1 : (n % 2 == 1) = false := by simpa using hm
  clear hm
  go_enter Tryz.func134, Tryz.ntmps134
  go_wp2_with (go_at_call 98; refine (xint HC.out.1 n p e HC.out.2).mono ?_; rintro e w1 ⟨rfl, h1', o1'⟩; have e1 := AX.out w1 o1'; have z0 : w1.cell? ⟨wr.heap.size, 0, none⟩ = some (.int .i64 0) := (by rw [cellq_any e1]; rfl); have z1 : w1.cell? ⟨wr.heap.size, 1, none⟩ = some (.int .i64 0) := (by rw [cellq_any e1]; rfl); have y0 : w1.frozen? ⟨wr.heap.size, 0, none⟩ = false := (by simp [World.frozen?, e1]); have y1 : w1.frozen? ⟨wr.heap.size, 1, none⟩ = false := (by simp [World.frozen?, e1]); have h1 : Hid (C.RInv w1 r ao N cap zs p _) := h1'; have o1 : Hid (C.ROnly wr w1 r) := HO.out.trans o1'; have hz1 : wr.heap.size < w1.heap.size := lt_of_block e1; clear h1' o1' e1)
  refine bodyPost_ret (v := .agg #[.int .i64 1, .int .i64 (n / 2)]) (by simp [results, Tryz.results134, go_sem, z0, z1]) rfl ?_
  exact ⟨rfl, HH.out.patched h1.out (C.two_sets _ _ _ _), o1.out.patched (C.two_sets _ _ _ _)⟩
theorem xsym {wr : World} {r : Nat} {ao : Option Addr} {N cap : Nat} {zs : List Int} {pos : Nat} {err : Int} (h : C.RInv wr r ao N cap zs pos err) (k n : Int) (p : Nat) (e : Int) (hn : syS zs pos err = ((k, n), p, e)) :
  Calls Tryz.prog 134 #[.pointer (some ⟨r, 0, none⟩)] wr (XE wr r ao N cap zs p e (.agg #[.int .i64 k, .int .i64 n])) := by
 have q : 0 <= (itS zs pos err).1 /\ (itS zs pos err).1 <= 2147483647 := take_range h.row.1 2147483647 (by omega) pos h.pos err
 obtain ⟨m, p', e', hm⟩ : ∃ m p' e', itS zs pos err = (m, p', e') := ⟨_, _, _, rfl⟩
 rw [syS, hm] at hn
 simp only [Prod.mk.injEq] at hn
 obtain ⟨⟨rfl, rfl⟩, rfl, rfl⟩ := hn
 rw [hm] at q
 exact xsym1 h m p' e' hm _ rfl q
theorem xl_sym {wr : World} {r : Nat} {ao : Option Addr} {N cap : Nat} {zs : List Int} {pos : Nat} {err : Int} (h : C.RInv wr r ao N cap zs pos err) (hg : ∀ g, ao = some ⟨g, 0, none⟩ -> g < wr.heap.size) (hz : zs.length <= 16777216) (L : List (Int × Int)) (P : Nat) (E : Int) (hL : liS zs (syS zs) pos err = (L, P, E)) :
  Calls Tryz.prog 133 #[.pointer (some ⟨r, 0, none⟩), .func (.func 134) #[] #[]] wr fun e w' => ∃ a c, e = .returned (.slice a L.length c) /\ SY w' (.slice a L.length c) L /\ (∀ k, (Value.slice a L.length c).ownBlock = some k -> wr.heap.size <= k) /\ C.RInv w' r ao N cap zs P E /\ C.ROnly wr w' r := by
 obtain ⟨n, p1, e1, hc⟩ : ∃ n p1 e1, ctS zs pos err = (n, p1, e1) := ⟨_, _, _, rfl⟩
 have HCT : Hid (ctS zs pos err = (n, p1, e1)) := hc
 have HLS : Hid (lsS (syS zs) n p1 e1 = (L, P, E)) := by show _ = _; rw [liS, hc] at hL; exact hL
 have HZ : Hid (zs.length <= 16777216) := hz
 have HRD : Hid (Rd1 zs (syS zs) encY) := rd_sy h.row.1
 have HG : Hid (∀ g, ao = some ⟨g, 0, none⟩ -> g < wr.heap.size) := hg
 have HI : Hid (C.RInv wr r ao N cap zs pos err) := h
 have HLR : Hid (r < wr.heap.size) := h.lt
 obtain ⟨ws, HWS⟩ : ∃ ws : World, Hid (ws = wr) := ⟨_, rfl⟩
 clear h hg hL hc hz
 go_enter Tryz.func133, Tryz.ntmps133
 go_wp2_with (go_at_call 128; refine (xct HI.out n p1 e1 HCT.out).mono ?_; rintro e w1 ⟨rfl, h1', o1'⟩; have h1 : Hid (C.RInv w1 r ao N cap zs p1 e1) := h1'; have o1 : Hid (C.ROnly ws w1 r) := (by rw [HWS.out]; exact o1'); clear h1' o1')
 go_loopw [5, 10] (fun v z wr => ∃ (k : Nat) (K : List (Int × Int)) (p : Nat) (e : Int), k <= n /\ z = .int .i64 k /\ K.length = k /\ k <= p /\ SY wr v K /\ (∀ j, v.ownBlock = some j -> ws.heap.size <= j) /\ C.RInv wr r ao N cap zs p e /\ C.ROnly ws wr r /\ (K ++ (lsS (syS zs) (n - k) p e).1, (lsS (syS zs) (n - k) p e).2) = (L, P, E)) (fun _ z _ => n - (intOf z).toNat)
 case atStart => exact ⟨0, [], p1, e1, Nat.zero_le _, rfl, rfl, Nat.zero_le _, SY.nil _, (fun j hj => by simp [Value.ownBlock] at hj), h1.out, o1.out, HLS.out⟩
 case round =>
  clear h1 o1
  obtain ⟨k, K, p, e, hk, rfl, hKl, hkp, hS', hv', hR', hO', hF'⟩ := hrel
  obtain ⟨va, vc, rfl⟩ := sy_len hS'
  rw [hKl] at hS' hv'
  rw [hKl]
  have HKL : Hid (K.length = k /\ k <= p) := ⟨hKl, hkp⟩
  have HPZ : Hid (p <= zs.length) := hR'.pos
  have HS : Hid (SY wr (.slice va k vc) K) := hS'
  have HV : Hid (∀ j, (Value.slice va k vc).ownBlock = some j -> ws.heap.size <= j) := hv'
  have HR : Hid (C.RInv wr r ao N cap zs p e) := hR'
  have HO : Hid (C.ROnly ws wr r) := hO'
  have HF : Hid ((K ++ (lsS (syS zs) (n - k) p e).1, (lsS (syS zs) (n - k) p e).2) = (L, P, E)) := hF'
  have hkz : k <= 16777216 := by have := HZ.out; have := hR'.pos; omega
  have HTL : Hid (K.length <= 100000000) := by show _ <= _; omega
  clear hS' hv' hR' hO' hF' hKl hkp
  by_cases hlt : k < n
  ·have klt : (k : Int) < (n : Int) := by omega
   obtain ⟨s, p', e', hR⟩ : ∃ s p' e', syS zs p e = (s, p', e') := ⟨_, _, _, rfl⟩
   have HRR : Hid (syS zs p e = (s, p', e')) := hR
   have HMO : Hid (p <= p' /\ p' <= zs.length) := by have := HRD.out.mono p e HPZ.out; rw [hR] at this; exact this
   have HGO : Hid ((p' = p -> K = L /\ p' = P /\ e' = E) /\ (p' ≠ p -> ((K ++ [s]) ++ (lsS (syS zs) (n - (k + 1)) p' e').1, (lsS (syS zs) (n - (k + 1)) p' e').2) = (L, P, E))) := ls_go HF.out hlt hR
   have ARd : Hid (∀ w', C.ROnly wr w' r -> SY w' (.slice va k vc) K) := fun w' ho => HS.out.kept fun j hj => ho.block j (HS.out.lt j hj) (fun e => by have := HV.out j hj; have := HLR.out; have := HWS.out; subst this; omega)
   clear hR
   obtain ⟨q1, q2⟩ := s
   by_cases hpp : p' = p
   ·obtain ⟨eL, eP, eE⟩ := HGO.out.1 hpp
    subst hpp
    have HEQ : Hid (K = L /\ p' = P /\ e' = E) := ⟨eL, eP, eE⟩
    clear eL eP eE
    have t1 : (((p' : Nat) : Int) == (p' : Int)) = true := by simp
    go_wp2_with (first
     | (go_at_call 129; guard_hyp HR : Hid (C.RInv wr r ao N cap zs p' e); refine (C.rat_any HR.out).mono ?_; rintro e w' ⟨rfl, rfl⟩; have HR0 : Hid (C.RInv wr r ao N cap zs p' _) := HR; clear HR)
     | (go_at_call 134; refine (xsym HR0.out q1 q2 p' e' HRR.out).mono ?_; rintro e w2 ⟨rfl, h2', o2'⟩; have h2 : Hid (C.RInv w2 r ao N cap zs p' e') := h2'; have o2 : Hid (C.ROnly ws w2 r) := HO.out.trans o2'; have S2 : Hid (SY w2 (.slice va k vc) K) := ARd.out w2 o2'; clear h2' o2')
     | (go_at_call 129; refine (C.rat_any (h2.out.later (below_alloc w2 _))).mono ?_; rintro e w' ⟨rfl, rfl⟩))
    go_ret
    have hws := HWS.out
    subst hws
    obtain ⟨rfl, rfl, rfl⟩ := HEQ.out
    have hkl := HKL.out.1
    subst hkl
    exact ⟨va, vc, rfl, S2.out.later (below_alloc _ _), HV.out, h2.out.later (below_alloc _ _), ro_then o2.out ((below_alloc _ _).mono o2.out.size)⟩
   ·have t1 : (((p' : Nat) : Int) == (p : Int)) = false := by simp only [beq_eq_false_iff_ne, ne_eq]; omega
    go_wp2_with (first
     | (go_at_call 129; guard_hyp HR : Hid (C.RInv wr r ao N cap zs p e); refine (C.rat_any HR.out).mono ?_; rintro e w' ⟨rfl, rfl⟩; have HR0 : Hid (C.RInv wr r ao N cap zs p _) := HR; clear HR)
     | (go_at_call 134; refine (xsym HR0.out q1 q2 p' e' HRR.out).mono ?_; rintro e w2 ⟨rfl, h2', o2'⟩; have h2 : Hid (C.RInv w2 r ao N cap zs p' e') := h2'; have o2 : Hid (C.ROnly ws w2 r) := HO.out.trans o2'; have S2 : Hid (SY w2 (.slice va k vc) K) := ARd.out w2 o2'; clear h2' o2')
     | (go_at_call 129; refine (C.rat_any (h2.out.later (below_alloc w2 _))).mono ?_; rintro e w' ⟨rfl, rfl⟩)
     | (at_builtin; refine wpList_sy_append_w rfl _ _ rfl _ K rfl ((S2.out.later (below_alloc w2 _)).later (below_alloc _ _)) _ 1 q1 q2 rfl (by simp) (by simp) HTL.out ?_; intro a4 n4 c4 w4 ho4 hg4))
    go_roundw
    case rel =>
     have hsz : ws.heap.size <= w2.heap.size := o2.out.size
     have hb1 : Below w2.heap.size w2 ((w2.alloc (.cells #[.int .i64 q1, .int .i64 q2] 30)).alloc (.cells #[.int .i64 q1, .int .i64 q2] 30)) := (below_alloc w2 _).trans ((below_alloc _ _).mono (below_alloc w2 _).size)
     have hb2 : Below ws.heap.size ((w2.alloc (.cells #[.int .i64 q1, .int .i64 q2] 30)).alloc (.cells #[.int .i64 q1, .int .i64 q2] 30)) w4 := (Below.refl _ _).grown hg4.grown (Nat.le_trans hsz hb1.size) HV.out
     have hb3 : Below ws.heap.size w2 w4 := (hb1.mono hsz).trans hb2
     have hws := HWS.out
     have hmo := HMO.out
     have hkl := HKL.out
     refine ⟨k + 1, K ++ [(q1, q2)], p', e', by omega, by go_num, by simp [hkl.1], by omega, ho4, ?_, ?_, ro_then o2.out hb3, HGO.out.2 hpp⟩
     ·intro j hj
      rcases hg4.moved with e | ⟨z, e, hz⟩
      ·exact HV.out j (e ▸ hj)
      ·rw [hj] at e; have := Option.some.inj e; have := hb1.size; omega
     ·exact rinv_kept2 h2.out (hb3.block r (by rw [hws]; exact HLR.out)) (fun g eg => hb3.block g (by rw [hws]; exact HG.out g eg))
    case measure => simp [intOf]; omega
  ·obtain rfl : k = n := by omega
   obtain ⟨eL, eP, eE⟩ := ls_end HF.out
   have HEQ : Hid (K = L /\ p = P /\ e = E) := ⟨eL, eP, eE⟩
   clear eL eP eE
   go_wp2
   go_ret
   have hws := HWS.out
   subst hws
   obtain ⟨rfl, rfl, rfl⟩ := HEQ.out
   have hkl := HKL.out.1
   subst hkl
   exact ⟨va, vc, rfl, HS.out, HV.out, HR.out, HO.out⟩
end Go.Proofs.YthgnhdnmcjpdmaaGreatDoor
