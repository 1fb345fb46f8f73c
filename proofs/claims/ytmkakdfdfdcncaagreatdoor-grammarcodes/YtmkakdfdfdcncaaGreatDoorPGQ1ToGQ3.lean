import Derived.Test.YtmkakdfdfdcncaaGreatDoorPGE8ToGE10
import Derived.Test.YtmkakdfdfdcncaaGreatDoorPRefRToRefOpenG
namespace Go.Proofs.YtmkakdfdfdcncaaGreatDoor
set_option linter.unusedVariables false
set_option maxRecDepth 100000
set_option maxHeartbeats 16000000
open Go.RowKit
def lsQ {α : Type} (R : Nat -> Int -> α × Nat × Int) : Nat -> Nat -> Int -> List α × Nat × Int
 | 0, p, e => ([], p, e)
 | n + 1, p, e => if e ≠ 0 then ([], p, e) else ((R p e).1 :: (lsQ R n (R p e).2.1 (R p e).2.2).1, (lsQ R n (R p e).2.1 (R p e).2.2).2)
def liQ {α : Type} (zs : List Int) (R : Nat -> Int -> α × Nat × Int) (p : Nat) (e : Int) : List α × Nat × Int := lsQ R (ctS zs p e).1 (ctS zs p e).2.1 (ctS zs p e).2.2
def lvQ (zs : List Int) : Nat -> Int -> (Int × List Int) × Nat × Int := bdS (itS zs) (liQ zs (itS zs))
def prQ (zs : List Int) : Nat -> Int -> (Int × List (Int × Int) × Int) × Nat × Int := bdS (itS zs) (bdS (liQ zs (syS zs)) (sgS zs))
def grQ (zs : List Int) : Nat -> Int -> GC × Nat × Int := bdS (liQ zs (txS zs)) (bdS (liQ zs (txS zs)) (bdS (itS zs) (bdS (liQ zs (prQ zs)) (liQ zs (lvQ zs)))))
structure Rq {α : Type} (zs : List Int) (R R' : Nat -> Int -> α × Nat × Int) : Prop where
 snd : ∀ p e, p <= zs.length -> (R' p e).2 = (R p e).2
 fst : ∀ p e, p <= zs.length -> (R p e).2.2 = 0 -> (R' p e).1 = (R p e).1
section
variable {α : Type} {zs : List Int} {R R' : Nat -> Int -> α × Nat × Int} {f : α -> List Int}
theorem Rq.refl (zs : List Int) (R : Nat -> Int -> α × Nat × Int) : Rq zs R R := ⟨fun _ _ _ => rfl, fun _ _ _ _ => rfl⟩
theorem lsQ_stuck (n p : Nat) (e : Int) (he : e ≠ 0) : lsQ R n p e = ([], p, e) := by
 cases n with
 | zero => rfl
 | succ n => rw [lsQ, if_pos he]
theorem rq_ls (h : Rd1 zs R f) (k : Rq zs R R') : ∀ (n p : Nat) (e : Int), p <= zs.length -> (lsQ R' n p e).2 = (lsS R n p e).2 /\ ((lsS R n p e).2.2 = 0 -> (lsQ R' n p e).1 = (lsS R n p e).1)
 | 0, p, e, hp => ⟨rfl, fun _ => rfl⟩
 | n + 1, p, e, hp => by
  by_cases he : e = 0
  ·subst he
   have q := h.mono p 0 hp
   have k2 := k.snd p 0 hp
   rw [lsQ, if_neg (by simp), k2]
   by_cases h1 : (R p 0).2.1 = p
   ·have hne : (R p 0).2.2 ≠ 0 := fun e0 => by have := h.more p hp e0; omega
    rw [lsS, if_pos h1, lsQ_stuck _ _ _ hne]
    exact ⟨rfl, fun e0 => absurd e0 hne⟩
   ·rw [lsS, if_neg h1]
    obtain ⟨i1, i2⟩ := rq_ls h k n (R p 0).2.1 (R p 0).2.2 q.2
    refine ⟨i1, fun e0 => ?_⟩
    have e1 : (R p 0).2.2 = 0 := by
     by_cases x : (R p 0).2.2 = 0
     ·exact x
     ·rw [ls_stuck h.toRd n _ _ x] at e0; exact absurd e0 x
    show (R' p 0).1 :: _ = (R p 0).1 :: _
    rw [k.fst p 0 hp e1, i2 e0]
  ·rw [lsQ_stuck _ _ _ he, ls_stuck h.toRd _ _ _ he]
   exact ⟨rfl, fun _ => rfl⟩
theorem rq_li (hb : C.isBytes zs) (h : Rd1 zs R f) (k : Rq zs R R') : Rq zs (liS zs R) (liQ zs R') :=
 ⟨fun p e hp => (rq_ls h k _ _ _ ((rd_ct hb).mono p e hp).2).1, fun p e hp h0 => (rq_ls h k _ _ _ ((rd_ct hb).mono p e hp).2).2 h0⟩
theorem rq_bd {β : Type} {S S' : Nat -> Int -> β × Nat × Int} {g : β -> List Int} (h : Rd1 zs R f) (s : Rd1 zs S g) (k : Rq zs R R') (l : Rq zs S S') : Rq zs (bdS R S) (bdS R' S') := by
 refine ⟨fun p e hp => ?_, fun p e hp h0 => ?_⟩
 ·have q := h.mono p e hp
  show (S' (R' p e).2.1 (R' p e).2.2).2 = (S (R p e).2.1 (R p e).2.2).2
  rw [k.snd p e hp]
  exact l.snd _ _ q.2
 ·have q := h.mono p e hp
  show ((R' p e).1, (S' (R' p e).2.1 (R' p e).2.2).1) = ((R p e).1, (S (R p e).2.1 (R p e).2.2).1)
  have h1 : (R p e).2.2 = 0 := s.zero h0
  rw [k.fst p e hp h1, k.snd p e hp, l.fst _ _ q.2 h0]
end
theorem rq_gr {zs : List Int} (hb : C.isBytes zs) : Rq zs (grS zs) (grQ zs) := by
 have t := rd_li hb (rd_tx hb)
 have i := rd_in hb
 have p := rd_li hb (rd_pr hb)
 have l := rd_li hb (rd_lv hb)
 have y := rd_li hb (rd_sy hb)
 have qt := rq_li hb (rd_tx hb) (Rq.refl zs (txS zs))
 have qy := rq_li hb (rd_sy hb) (Rq.refl zs (syS zs))
 have qi := rq_li hb i (Rq.refl zs (itS zs))
 have qp : Rq zs (prS zs) (prQ zs) := rq_bd i (rd_bd y (rd_sg hb)) (Rq.refl _ _) (rq_bd y (rd_sg hb) qy (Rq.refl _ _))
 have ql : Rq zs (lvS zs) (lvQ zs) := rq_bd i (rd_li hb i) (Rq.refl _ _) qi
 exact rq_bd t (rd_bd t (rd_bd i (rd_bd p l))) qt (rq_bd t (rd_bd i (rd_bd p l)) qt (rq_bd i (rd_bd p l) (Rq.refl _ _) (rq_bd p l (rq_li hb (rd_pr hb) qp) (rq_li hb (rd_lv hb) ql))))
abbrev QE (wr : World) (r : Nat) (ao : Option Addr) (cap : Nat) (zs : List Int) (p : Nat) (er : Int) (val : Value) (e : Ending) (w' : World) : Prop := e = .returned val /\ C.QInv w' r ao cap zs p er /\ C.ROnly wr w' r
section
variable {wr : World} {r : Nat} {ao : Option Addr} {cap : Nat} {zs : List Int} {pos : Nat} {err : Int}
theorem qit (h : C.QInv wr r ao cap zs pos err) (n : Int) (p : Nat) (e : Int) (hn : itS zs pos err = (n, p, e)) :
  Calls Tryz.prog 164 #[.pointer (some ⟨r, 0, none⟩), .int .i64 2147483647] wr (QE wr r ao cap zs p e (.int .i64 n)) := by
 have q := take_range h.row.1 2147483647 (by omega) pos h.pos_ err
 have hn' : C.takeS zs pos err 2147483647 = (n, p, e) := hn
 rw [hn'] at q
 exact C.qint 2147483647 h (by omega) (by omega) n p e hn' q.1 (by have := q.2; simp only at this; omega)
theorem qsg (h : C.QInv wr r ao cap zs pos err) (n : Int) (p : Nat) (e : Int) (hn : sgS zs pos err = (n, p, e)) :
  Calls Tryz.prog 167 #[.pointer (some ⟨r, 0, none⟩), .int .i64 2147483647] wr (QE wr r ao cap zs p e (.int .i64 n)) := by
 obtain ⟨m, p', e', hm⟩ : ∃ m p' e', C.takeS zs pos err 4294967294 = (m, p', e') := ⟨_, _, _, rfl⟩
 rw [sgS, hm] at hn
 simp only [Prod.mk.injEq] at hn
 obtain ⟨rfl, rfl, rfl⟩ := hn
 have f1 : C.foldS 2147483647 = 4294967294 := by unfold C.foldS; simp
 exact C.qsigned 2147483647 h (by omega) (by omega) m p' e' (by rw [f1]; exact hm)
theorem qct (h : C.QInv wr r ao cap zs pos err) (n p : Nat) (e : Int) (hn : ctS zs pos err = (n, p, e)) :
  Calls Tryz.prog 165 #[.pointer (some ⟨r, 0, none⟩), .int .i64 1, .int .i64 2147483647] wr (QE wr r ao cap zs p e (.int .i64 (n : Int))) := by
 by_cases he : err = 0
 ·subst he
  obtain ⟨m, s, x, hc⟩ : ∃ m s x, C.countS zs pos 1 2147483647 = (m, s, x) := ⟨_, _, _, rfl⟩
  obtain ⟨f1, f2⟩ := C.countS_facts zs h.row.1 pos h.pos_ 1 2147483647 m s x hc
  have q := C.qcount 1 2147483647 h (by omega) (by omega) (by omega) (by omega) m s x hc
  rw [ctS, if_neg (by simp), hc] at hn
  by_cases hx : x = 0
  ·subst hx
   obtain ⟨_, g1, _, _, g4, _⟩ := f2 rfl
   rw [if_neg (by simp)] at hn
   simp only [Prod.mk.injEq] at hn
   obtain ⟨rfl, rfl, rfl⟩ := hn
   have em : ((m.toNat : Nat) : Int) = m := Int.toNat_of_nonneg g4
   rw [em]
   exact q
  ·rw [if_pos hx] at hn
   simp only [Prod.mk.injEq] at hn
   obtain ⟨rfl, rfl, rfl⟩ := hn
   obtain ⟨rfl, rfl⟩ := f1 hx
   have e0 : pos + (0 : Int).toNat = pos := by simp
   rw [e0] at q
   exact q
 ·rw [ctS, if_pos he] at hn
  simp only [Prod.mk.injEq] at hn
  obtain ⟨rfl, rfl, rfl⟩ := hn
  exact C.qcount_no 1 2147483647 h he (by omega) (by omega) (by omega)
theorem qtx (h : C.QInv wr r ao cap zs pos err) (hcap : zs.length <= cap) (s : ByteArray) (p : Nat) (e : Int) (hn : txS zs pos err = (s, p, e)) :
  Calls Tryz.prog 202 #[.pointer (some ⟨r, 0, none⟩), .int .i64 65536] wr (QE wr r ao cap zs p e (.string s)) := by
 by_cases he : err = 0
 ·subst he
  obtain ⟨m, z, x, hc⟩ : ∃ m z x, C.countS zs pos 1 65536 = (m, z, x) := ⟨_, _, _, rfl⟩
  obtain ⟨f1, f2⟩ := C.countS_facts zs h.row.1 pos h.pos_ 1 65536 m z x hc
  rw [txS, if_neg (by simp), hc] at hn
  by_cases hx : x = 0
  ·subst hx
   obtain ⟨_, g1, _, _, g4, _⟩ := f2 rfl
   rw [if_neg (by simp)] at hn
   simp only [Prod.mk.injEq] at hn
   obtain ⟨rfl, rfl, rfl⟩ := hn
   have es : ((z.toNat : Nat) : Int) = z := Int.toNat_of_nonneg (by omega)
   have em : ((m.toNat : Nat) : Int) = m := Int.toNat_of_nonneg g4
   exact C.qtext_ok 65536 h hcap (by omega) (by omega) m.toNat z.toNat (by rw [es, em]; exact hc)
  ·rw [if_pos hx] at hn
   simp only [Prod.mk.injEq] at hn
   obtain ⟨rfl, rfl, rfl⟩ := hn
   obtain ⟨rfl, rfl⟩ := f1 hx
   exact C.qtext_err 65536 h (by omega) (by omega) x hx hc
 ·rw [txS, if_pos he] at hn
  simp only [Prod.mk.injEq] at hn
  obtain ⟨rfl, rfl, rfl⟩ := hn
  exact C.qtext_no 65536 h he (by omega) (by omega)
end
theorem qinv_below {B : Nat} {w w' : World} {q : Nat} {ao : Option Addr} {cap : Nat} {xs : List Int} {p : Nat} {e : Int} (h : C.QInv w q ao cap xs p e) (hb : Below B w w') (hq : q < B) (ha : ∀ b off, ao = some ⟨b, off, none⟩ -> xs ≠ [] -> b < B) : C.QInv w' q ao cap xs p e := by
 refine ⟨(hb.block q hq).trans h.hq, ⟨h.row.1, fun hne => ?_⟩, h.pos_, h.lim, h.far⟩
 obtain ⟨b, off, e1, hc⟩ := h.row.2 hne
 exact ⟨b, off, e1, fun i hi => (hb.cell (p := ⟨b, off + i, none⟩) (ha b off e1 hne)).trans (hc i hi)⟩
theorem lsQ_go {α : Type} {R : Nat -> Int -> α × Nat × Int} {m p : Nat} {K L : List α} {P : Nat} {E : Int} {s : α} {p' : Nat} {e' : Int} (hF : (K ++ (lsQ R (m + 1) p 0).1, (lsQ R (m + 1) p 0).2) = (L, P, E)) (hR : R p 0 = (s, p', e')) :
  ((K ++ [s]) ++ (lsQ R m p' e').1, (lsQ R m p' e').2) = (L, P, E) := by
 rw [lsQ, if_neg (by simp), hR] at hF
 rw [List.append_assoc]
 exact hF
theorem lsQ_end {α : Type} {R : Nat -> Int -> α × Nat × Int} {m p : Nat} {e : Int} {K L : List α} {P : Nat} {E : Int} (hF : (K ++ (lsQ R m p e).1, (lsQ R m p e).2) = (L, P, E)) (h : m = 0 ∨ e ≠ 0) : K = L /\ p = P /\ e = E := by
 have q : lsQ R m p e = ([], p, e) := by
  rcases h with rfl | h
  ·rfl
  ·exact lsQ_stuck _ _ _ h
 rw [q] at hF
 simp only [List.append_nil, Prod.mk.injEq] at hF
 exact ⟨hF.1, hF.2.1, hF.2.2⟩
theorem ct_le {zs : List Int} (hb : C.isBytes zs) (p : Nat) (e : Int) (hp : p <= zs.length) : (ctS zs p e).1 <= zs.length := by
 rw [ctS]
 by_cases he : e ≠ 0
 ·rw [if_pos he]; exact Nat.zero_le _
 rw [if_neg he]
 obtain ⟨m, s, x, hc⟩ : ∃ m s x, C.countS zs p 1 2147483647 = (m, s, x) := ⟨_, _, _, rfl⟩
 obtain ⟨_, f2⟩ := C.countS_facts zs hb p hp 1 2147483647 m s x hc
 rw [hc]
 by_cases hx : x ≠ 0
 ·rw [if_pos hx]; exact Nat.zero_le _
 rw [if_neg hx]
 obtain ⟨_, g1, _, g3, g4, _, g6, _⟩ := f2 (by simpa using hx)
 show m.toNat <= zs.length
 simp at g6; omega
theorem ql_str {wr : World} {r : Nat} {ao : Option Addr} {cap : Nat} {zs : List Int} {pos : Nat} {err : Int} (h : C.QInv wr r ao cap zs pos err) (hcap : zs.length <= cap) (hg : ∀ b off, ao = some ⟨b, off, none⟩ -> zs ≠ [] -> b < wr.heap.size) (hz : zs.length <= 16777216) (L : List ByteArray) (P : Nat) (E : Int) (hL : liQ zs (txS zs) pos err = (L, P, E)) :
  Calls Tryz.prog 163 #[.pointer (some ⟨r, 0, none⟩)] wr fun e w' => ∃ a c, e = .returned (.slice a L.length c) /\ GS w' (.slice a L.length c) L /\ (∀ k, (Value.slice a L.length c).ownBlock = some k -> wr.heap.size <= k) /\ C.QInv w' r ao cap zs P E /\ C.ROnly wr w' r := by
 obtain ⟨n, p1, e1, hc⟩ : ∃ n p1 e1, ctS zs pos err = (n, p1, e1) := ⟨_, _, _, rfl⟩
 have hn : n <= zs.length := by have := ct_le h.row.1 pos err h.pos_; rw [hc] at this; exact this
 have HCT : Hid (ctS zs pos err = (n, p1, e1)) := hc
 have HLS : Hid (lsQ (txS zs) n p1 e1 = (L, P, E)) := by show _ = _; rw [liQ, hc] at hL; exact hL
 have HZ : Hid (zs.length <= 16777216 /\ n <= zs.length /\ zs.length <= cap) := ⟨hz, hn, hcap⟩
 have HG : Hid (∀ b off, ao = some ⟨b, off, none⟩ -> zs ≠ [] -> b < wr.heap.size) := hg
 have HI : Hid (C.QInv wr r ao cap zs pos err) := h
 have HLR : Hid (r < wr.heap.size) := lt_of_block h.hq
 have hnz : n <= 16777216 := by omega
 obtain ⟨ws, HWS⟩ : ∃ ws : World, Hid (ws = wr) := ⟨_, rfl⟩
 clear h hg hL hc hz hcap hn
 go_enter Tryz.func163, Tryz.ntmps163
 go_wp2_with (go_at_call 165; refine (qct HI.out n p1 e1 HCT.out).mono ?_; rintro e w1 ⟨rfl, h1', o1'⟩; have h1 : Hid (C.QInv w1 r ao cap zs p1 e1) := h1'; have o1 : Hid (C.ROnly ws w1 r) := (by rw [HWS.out]; exact o1'); clear h1' o1')
 go_loopw [3, 4] (fun v z wr => ∃ (m : Nat) (K : List ByteArray) (p : Nat) (e : Int), z = .int .i64 m /\ K.length + m = n /\ GS wr v K /\ (∀ j, v.ownBlock = some j -> ws.heap.size <= j) /\ C.QInv wr r ao cap zs p e /\ C.ROnly ws wr r /\ (K ++ (lsQ (txS zs) m p e).1, (lsQ (txS zs) m p e).2) = (L, P, E)) (fun _ z _ => (intOf z).toNat)
 case atStart => exact ⟨n, [], p1, e1, rfl, by simp, GS.nil _, (fun j hj => by simp [Value.ownBlock] at hj), h1.out, o1.out, HLS.out⟩
 case round =>
  clear h1 o1
  obtain ⟨m, K, p, e, rfl, hKm, hS', hv', hR', hO', hF'⟩ := hrel
  obtain ⟨va, vc, rfl⟩ := gs_len hS'
  have HS : Hid (GS wr (.slice va K.length vc) K) := hS'
  have HV : Hid (∀ j, (Value.slice va K.length vc).ownBlock = some j -> ws.heap.size <= j) := hv'
  have HR : Hid (C.QInv wr r ao cap zs p e) := hR'
  have HO : Hid (C.ROnly ws wr r) := hO'
  have HF : Hid ((K ++ (lsQ (txS zs) m p e).1, (lsQ (txS zs) m p e).2) = (L, P, E)) := hF'
  have HTL : Hid (K.length <= 100000000) := by show _ <= _; omega
  have k2 := hR'.c2
  clear hS' hv' hR' hO' hF'
  by_cases hend : m = 0 ∨ e ≠ 0
  ·obtain ⟨eL, eP, eE⟩ := lsQ_end HF.out hend
   have HEQ : Hid (K = L /\ p = P /\ e = E) := ⟨eL, eP, eE⟩
   clear eL eP eE
   by_cases hm : m = 0
   ·subst hm
    go_wp2
    go_ret
    have hws := HWS.out
    subst hws
    obtain ⟨rfl, rfl, rfl⟩ := HEQ.out
    exact ⟨va, vc, rfl, HS.out, HV.out, HR.out, HO.out⟩
   ·have he : (e == 0) = false := by simpa using hend.resolve_left hm
    have hm1 : (0 : Int) < (m : Int) := by omega
    clear hend hm
    go_wp2
    go_ret
    have hws := HWS.out
    subst hws
    obtain ⟨rfl, rfl, rfl⟩ := HEQ.out
    exact ⟨va, vc, rfl, HS.out, HV.out, HR.out, HO.out⟩
  ·obtain ⟨m, rfl⟩ : ∃ m', m = m' + 1 := ⟨m - 1, by omega⟩
   obtain rfl : e = 0 := by omega
   have he : ((0 : Int) == 0) = true := by simp
   have hm1 : (0 : Int) < ((m + 1 : Nat) : Int) := by omega
   obtain ⟨s, p', e', hR⟩ : ∃ s p' e', txS zs p 0 = (s, p', e') := ⟨_, _, _, rfl⟩
   have HRR : Hid (txS zs p 0 = (s, p', e')) := hR
   have HGO : Hid (((K ++ [s]) ++ (lsQ (txS zs) m p' e').1, (lsQ (txS zs) m p' e').2) = (L, P, E)) := lsQ_go HF.out hR
   have ARd : Hid (∀ w', C.ROnly wr w' r -> GS w' (.slice va K.length vc) K) := fun w' ho => HS.out.kept fun j hj => ho.block j (HS.out.lt j hj) (fun e => by have := HV.out j hj; have := HLR.out; have := HWS.out; subst this; omega)
   clear hR hend
   go_wp2_with (first
    | (go_at_call 202; refine (qtx HR.out HZ.out.2.2 s p' e' HRR.out).mono ?_; rintro e w2 ⟨rfl, h2', o2'⟩; have h2 : Hid (C.QInv w2 r ao cap zs p' e') := h2'; have o2 : Hid (C.ROnly ws w2 r) := HO.out.trans o2'; have S2 : Hid (GS w2 (.slice va K.length vc) K) := ARd.out w2 o2'; clear h2' o2')
    | (at_builtin; refine wpList_gs_append_w rfl _ _ rfl _ K rfl (S2.out.later (below_alloc w2 _)) w2.heap.size 1 s rfl (by simp) HTL.out ?_; intro a4 n4 c4 w4 ho4 hg4))
   go_roundw
   case rel =>
    have hsz : ws.heap.size <= w2.heap.size := o2.out.size
    have hb1 : Below w2.heap.size w2 (w2.alloc (.cells #[.string s] 9)) := below_alloc w2 _
    have hb2 : Below ws.heap.size (w2.alloc (.cells #[.string s] 9)) w4 := (Below.refl _ _).grown hg4.grown (Nat.le_trans hsz hb1.size) HV.out
    have hb3 : Below ws.heap.size w2 w4 := (hb1.mono hsz).trans hb2
    have hws := HWS.out
    refine ⟨m, K ++ [s], p', e', by go_num, by simp; omega, ho4, ?_, ?_, ro_then o2.out hb3, HGO.out⟩
    ·intro j hj
     rcases hg4.moved with e | ⟨z, e, hz⟩
     ·exact HV.out j (e ▸ hj)
     ·rw [hj] at e; have := Option.some.inj e; have := hb1.size; omega
    ·exact qinv_below h2.out hb3 (by rw [hws]; exact HLR.out) (fun b off eb hn => by rw [hws]; exact HG.out b off eb hn)
   case measure => simp [intOf]
theorem ql_int {wr : World} {r : Nat} {ao : Option Addr} {cap : Nat} {zs : List Int} {pos : Nat} {err : Int} (h : C.QInv wr r ao cap zs pos err) (hcap : zs.length <= cap) (hg : ∀ b off, ao = some ⟨b, off, none⟩ -> zs ≠ [] -> b < wr.heap.size) (hz : zs.length <= 16777216) (L : List Int) (P : Nat) (E : Int) (hL : liQ zs (itS zs) pos err = (L, P, E)) :
  Calls Tryz.prog 168 #[.pointer (some ⟨r, 0, none⟩)] wr fun e w' => ∃ a c, e = .returned (.slice a L.length c) /\ IL w' (.slice a L.length c) L /\ (∀ k, (Value.slice a L.length c).ownBlock = some k -> wr.heap.size <= k) /\ C.QInv w' r ao cap zs P E /\ C.ROnly wr w' r := by
 obtain ⟨n, p1, e1, hc⟩ : ∃ n p1 e1, ctS zs pos err = (n, p1, e1) := ⟨_, _, _, rfl⟩
 have hn : n <= zs.length := by have := ct_le h.row.1 pos err h.pos_; rw [hc] at this; exact this
 have HCT : Hid (ctS zs pos err = (n, p1, e1)) := hc
 have HLS : Hid (lsQ (itS zs) n p1 e1 = (L, P, E)) := by show _ = _; rw [liQ, hc] at hL; exact hL
 have HZ : Hid (zs.length <= 16777216 /\ n <= zs.length /\ zs.length <= cap) := ⟨hz, hn, hcap⟩
 have HG : Hid (∀ b off, ao = some ⟨b, off, none⟩ -> zs ≠ [] -> b < wr.heap.size) := hg
 have HI : Hid (C.QInv wr r ao cap zs pos err) := h
 have HLR : Hid (r < wr.heap.size) := lt_of_block h.hq
 have hnz : n <= 16777216 := by omega
 obtain ⟨ws, HWS⟩ : ∃ ws : World, Hid (ws = wr) := ⟨_, rfl⟩
 clear h hg hL hc hz hcap hn
 go_enter Tryz.func168, Tryz.ntmps168
 go_wp2_with (go_at_call 165; refine (qct HI.out n p1 e1 HCT.out).mono ?_; rintro e w1 ⟨rfl, h1', o1'⟩; have h1 : Hid (C.QInv w1 r ao cap zs p1 e1) := h1'; have o1 : Hid (C.ROnly ws w1 r) := (by rw [HWS.out]; exact o1'); clear h1' o1')
 go_loopw [3, 4] (fun v z wr => ∃ (m : Nat) (K : List Int) (p : Nat) (e : Int), z = .int .i64 m /\ K.length + m = n /\ IL wr v K /\ (∀ j, v.ownBlock = some j -> ws.heap.size <= j) /\ C.QInv wr r ao cap zs p e /\ C.ROnly ws wr r /\ (K ++ (lsQ (itS zs) m p e).1, (lsQ (itS zs) m p e).2) = (L, P, E)) (fun _ z _ => (intOf z).toNat)
 case atStart => exact ⟨n, [], p1, e1, rfl, by simp, IL.nil _, (fun j hj => by simp [Value.ownBlock] at hj), h1.out, o1.out, HLS.out⟩
 case round =>
  clear h1 o1
  obtain ⟨m, K, p, e, rfl, hKm, hS', hv', hR', hO', hF'⟩ := hrel
  obtain ⟨va, vc, rfl⟩ := il_len hS'
  have HS : Hid (IL wr (.slice va K.length vc) K) := hS'
  have HV : Hid (∀ j, (Value.slice va K.length vc).ownBlock = some j -> ws.heap.size <= j) := hv'
  have HR : Hid (C.QInv wr r ao cap zs p e) := hR'
  have HO : Hid (C.ROnly ws wr r) := hO'
  have HF : Hid ((K ++ (lsQ (itS zs) m p e).1, (lsQ (itS zs) m p e).2) = (L, P, E)) := hF'
  have HTL : Hid (K.length <= 100000000) := by show _ <= _; omega
  have k2 := hR'.c2
  clear hS' hv' hR' hO' hF'
  by_cases hend : m = 0 ∨ e ≠ 0
  ·obtain ⟨eL, eP, eE⟩ := lsQ_end HF.out hend
   have HEQ : Hid (K = L /\ p = P /\ e = E) := ⟨eL, eP, eE⟩
   clear eL eP eE
   by_cases hm : m = 0
   ·subst hm
    go_wp2
    go_ret
    have hws := HWS.out
    subst hws
    obtain ⟨rfl, rfl, rfl⟩ := HEQ.out
    exact ⟨va, vc, rfl, HS.out, HV.out, HR.out, HO.out⟩
   ·have he : (e == 0) = false := by simpa using hend.resolve_left hm
    have hm1 : (0 : Int) < (m : Int) := by omega
    clear hend hm
    go_wp2
    go_ret
    have hws := HWS.out
    subst hws
    obtain ⟨rfl, rfl, rfl⟩ := HEQ.out
    exact ⟨va, vc, rfl, HS.out, HV.out, HR.out, HO.out⟩
  ·obtain ⟨m, rfl⟩ : ∃ m', m = m' + 1 := ⟨m - 1, by omega⟩
   obtain rfl : e = 0 := by omega
   have he : ((0 : Int) == 0) = true := by simp
   have hm1 : (0 : Int) < ((m + 1 : Nat) : Int) := by omega
   obtain ⟨s, p', e', hR⟩ : ∃ s p' e', itS zs p 0 = (s, p', e') := ⟨_, _, _, rfl⟩
   have HRR : Hid (itS zs p 0 = (s, p', e')) := hR
   have HGO : Hid (((K ++ [s]) ++ (lsQ (itS zs) m p' e').1, (lsQ (itS zs) m p' e').2) = (L, P, E)) := lsQ_go HF.out hR
   have ARd : Hid (∀ w', C.ROnly wr w' r -> IL w' (.slice va K.length vc) K) := fun w' ho => HS.out.kept fun j hj => ho.block j (HS.out.lt j hj) (fun e => by have := HV.out j hj; have := HLR.out; have := HWS.out; subst this; omega)
   clear hR hend
   go_wp2_with (first
    | (go_at_call 164; refine (qit HR.out s p' e' HRR.out).mono ?_; rintro e w2 ⟨rfl, h2', o2'⟩; have h2 : Hid (C.QInv w2 r ao cap zs p' e') := h2'; have o2 : Hid (C.ROnly ws w2 r) := HO.out.trans o2'; have S2 : Hid (IL w2 (.slice va K.length vc) K) := ARd.out w2 o2'; clear h2' o2')
    | (at_builtin; refine wpList_il_append_w rfl _ _ rfl _ K rfl (S2.out.later (below_alloc w2 _)) w2.heap.size 1 s rfl (by simp) HTL.out ?_; intro a4 n4 c4 w4 ho4 hg4))
   go_roundw
   case rel =>
    have hsz : ws.heap.size <= w2.heap.size := o2.out.size
    have hb1 : Below w2.heap.size w2 (w2.alloc (.cells #[.int .i64 s] 3)) := below_alloc w2 _
    have hb2 : Below ws.heap.size (w2.alloc (.cells #[.int .i64 s] 3)) w4 := (Below.refl _ _).grown hg4.grown (Nat.le_trans hsz hb1.size) HV.out
    have hb3 : Below ws.heap.size w2 w4 := (hb1.mono hsz).trans hb2
    have hws := HWS.out
    refine ⟨m, K ++ [s], p', e', by go_num, by simp; omega, ho4, ?_, ?_, ro_then o2.out hb3, HGO.out⟩
    ·intro j hj
     rcases hg4.moved with e | ⟨z, e, hz⟩
     ·exact HV.out j (e ▸ hj)
     ·rw [hj] at e; have := Option.some.inj e; have := hb1.size; omega
    ·exact qinv_below h2.out hb3 (by rw [hws]; exact HLR.out) (fun b off eb hn => by rw [hws]; exact HG.out b off eb hn)
   case measure => simp [intOf]
theorem ql_sym {wr : World} {r : Nat} {ao : Option Addr} {cap : Nat} {zs : List Int} {pos : Nat} {err : Int} (h : C.QInv wr r ao cap zs pos err) (hcap : zs.length <= cap) (hg : ∀ b off, ao = some ⟨b, off, none⟩ -> zs ≠ [] -> b < wr.heap.size) (hz : zs.length <= 16777216) (L : List (Int × Int)) (P : Nat) (E : Int) (hL : liQ zs (syS zs) pos err = (L, P, E)) :
  Calls Tryz.prog 166 #[.pointer (some ⟨r, 0, none⟩)] wr fun e w' => ∃ a c, e = .returned (.slice a L.length c) /\ SY w' (.slice a L.length c) L /\ (∀ k, (Value.slice a L.length c).ownBlock = some k -> wr.heap.size <= k) /\ C.QInv w' r ao cap zs P E /\ C.ROnly wr w' r := by
 obtain ⟨n, p1, e1, hc⟩ : ∃ n p1 e1, ctS zs pos err = (n, p1, e1) := ⟨_, _, _, rfl⟩
 have hn : n <= zs.length := by have := ct_le h.row.1 pos err h.pos_; rw [hc] at this; exact this
 have HCT : Hid (ctS zs pos err = (n, p1, e1)) := hc
 have HLS : Hid (lsQ (syS zs) n p1 e1 = (L, P, E)) := by show _ = _; rw [liQ, hc] at hL; exact hL
 have HZ : Hid (zs.length <= 16777216 /\ n <= zs.length /\ zs.length <= cap) := ⟨hz, hn, hcap⟩
 have HG : Hid (∀ b off, ao = some ⟨b, off, none⟩ -> zs ≠ [] -> b < wr.heap.size) := hg
 have HI : Hid (C.QInv wr r ao cap zs pos err) := h
 have HLR : Hid (r < wr.heap.size) := lt_of_block h.hq
 have hnz : n <= 16777216 := by omega
 obtain ⟨ws, HWS⟩ : ∃ ws : World, Hid (ws = wr) := ⟨_, rfl⟩
 clear h hg hL hc hz hcap hn
 go_enter Tryz.func166, Tryz.ntmps166
 go_wp2_with (go_at_call 165; refine (qct HI.out n p1 e1 HCT.out).mono ?_; rintro e w1 ⟨rfl, h1', o1'⟩; have h1 : Hid (C.QInv w1 r ao cap zs p1 e1) := h1'; have o1 : Hid (C.ROnly ws w1 r) := (by rw [HWS.out]; exact o1'); clear h1' o1')
 go_loopw [3, 4] (fun v z wr => ∃ (m : Nat) (K : List (Int × Int)) (p : Nat) (e : Int), z = .int .i64 m /\ K.length + m = n /\ SY wr v K /\ (∀ j, v.ownBlock = some j -> ws.heap.size <= j) /\ C.QInv wr r ao cap zs p e /\ C.ROnly ws wr r /\ (K ++ (lsQ (syS zs) m p e).1, (lsQ (syS zs) m p e).2) = (L, P, E)) (fun _ z _ => (intOf z).toNat)
 case atStart => exact ⟨n, [], p1, e1, rfl, by simp, SY.nil _, (fun j hj => by simp [Value.ownBlock] at hj), h1.out, o1.out, HLS.out⟩
 case round =>
  clear h1 o1
  obtain ⟨m, K, p, e, rfl, hKm, hS', hv', hR', hO', hF'⟩ := hrel
  obtain ⟨va, vc, rfl⟩ := sy_len hS'
  have HS : Hid (SY wr (.slice va K.length vc) K) := hS'
  have HV : Hid (∀ j, (Value.slice va K.length vc).ownBlock = some j -> ws.heap.size <= j) := hv'
  have HR : Hid (C.QInv wr r ao cap zs p e) := hR'
  have HO : Hid (C.ROnly ws wr r) := hO'
  have HF : Hid ((K ++ (lsQ (syS zs) m p e).1, (lsQ (syS zs) m p e).2) = (L, P, E)) := hF'
  have HTL : Hid (K.length <= 100000000) := by show _ <= _; omega
  have k2 := hR'.c2
  clear hS' hv' hR' hO' hF'
  by_cases hend : m = 0 ∨ e ≠ 0
  ·obtain ⟨eL, eP, eE⟩ := lsQ_end HF.out hend
   have HEQ : Hid (K = L /\ p = P /\ e = E) := ⟨eL, eP, eE⟩
   clear eL eP eE
   by_cases hm : m = 0
   ·subst hm
    go_wp2
    go_ret
    have hws := HWS.out
    subst hws
    obtain ⟨rfl, rfl, rfl⟩ := HEQ.out
    exact ⟨va, vc, rfl, HS.out, HV.out, HR.out, HO.out⟩
   ·have he : (e == 0) = false := by simpa using hend.resolve_left hm
    have hm1 : (0 : Int) < (m : Int) := by omega
    clear hend hm
    go_wp2
    go_ret
    have hws := HWS.out
    subst hws
    obtain ⟨rfl, rfl, rfl⟩ := HEQ.out
    exact ⟨va, vc, rfl, HS.out, HV.out, HR.out, HO.out⟩
  ·obtain ⟨m, rfl⟩ : ∃ m', m = m' + 1 := ⟨m - 1, by omega⟩
   obtain rfl : e = 0 := by omega
   have he : ((0 : Int) == 0) = true := by simp
   have hm1 : (0 : Int) < ((m + 1 : Nat) : Int) := by omega
   obtain ⟨s, p', e', hR⟩ : ∃ s p' e', syS zs p 0 = (s, p', e') := ⟨_, _, _, rfl⟩
   have HRR : Hid (syS zs p 0 = (s, p', e')) := hR
   have HGO : Hid (((K ++ [s]) ++ (lsQ (syS zs) m p' e').1, (lsQ (syS zs) m p' e').2) = (L, P, E)) := lsQ_go HF.out hR
   have ARd : Hid (∀ w', C.ROnly wr w' r -> SY w' (.slice va K.length vc) K) := fun w' ho => HS.out.kept fun j hj => ho.block j (HS.out.lt j hj) (fun e => by have := HV.out j hj; have := HLR.out; have := HWS.out; subst this; omega)
   clear hR hend
   obtain ⟨x, p2, e2, hx⟩ : ∃ x p2 e2, itS zs p 0 = (x, p2, e2) := ⟨_, _, _, rfl⟩
   have hx0 : 0 <= x /\ x <= 2147483647 := by have := take_range HR.out.row.1 2147483647 (by omega) p HR.out.pos_ 0; rw [show C.takeS zs p 0 2147483647 = (x, p2, e2) from hx] at this; exact this
   have hsx : s = (1 + x % 2, x / 2) /\ p2 = p' /\ e2 = e' := by
    have q := HRR.out
    rw [syS, hx] at q
    simp only [Prod.mk.injEq] at q
    refine ⟨?_, q.2.1, q.2.2⟩
    rw [<- q.1]
    by_cases h1 : x % 2 = 1
    ·rw [if_pos h1, h1]; rfl
    ·rw [if_neg h1, show x % 2 = 0 by omega]; rfl
   obtain ⟨rfl, rfl, rfl⟩ := hsx
   have HX : Hid (itS zs p 0 = (x, p2, e2)) := hx
   clear hx
   go_wp2_with (first
    | (go_at_call 164; refine (qit HR.out x p2 e2 HX.out).mono ?_; rintro e w2 ⟨rfl, h2', o2'⟩; have h2 : Hid (C.QInv w2 r ao cap zs p2 e2) := h2'; have o2 : Hid (C.ROnly ws w2 r) := HO.out.trans o2'; have S2 : Hid (SY w2 (.slice va K.length vc) K) := ARd.out w2 o2'; clear h2' o2')
    | (at_builtin; refine wpList_sy_append_w rfl _ _ rfl _ K rfl (S2.out.later (below_alloc w2 _)) w2.heap.size 1 (1 + x % 2) (x / 2) rfl (by simp) (by simp) HTL.out ?_; intro a4 n4 c4 w4 ho4 hg4))
   go_roundw
   case rel =>
    have hsz : ws.heap.size <= w2.heap.size := o2.out.size
    have hb1 : Below w2.heap.size w2 (w2.alloc (.cells #[.int .i64 (1 + x % 2), .int .i64 (x / 2)] 76)) := below_alloc w2 _
    have hb2 : Below ws.heap.size (w2.alloc (.cells #[.int .i64 (1 + x % 2), .int .i64 (x / 2)] 76)) w4 := (Below.refl _ _).grown hg4.grown (Nat.le_trans hsz hb1.size) HV.out
    have hb3 : Below ws.heap.size w2 w4 := (hb1.mono hsz).trans hb2
    have hws := HWS.out
    refine ⟨m, K ++ [(1 + x % 2, x / 2)], p2, e2, by go_num, by simp; omega, ho4, ?_, ?_, ro_then o2.out hb3, HGO.out⟩
    ·intro j hj
     rcases hg4.moved with e | ⟨z, e, hz⟩
     ·exact HV.out j (e ▸ hj)
     ·rw [hj] at e; have := Option.some.inj e; have := hb1.size; omega
    ·exact qinv_below h2.out hb3 (by rw [hws]; exact HLR.out) (fun b off eb hn => by rw [hws]; exact HG.out b off eb hn)
   case measure => simp [intOf]
end Go.Proofs.YtmkakdfdfdcncaaGreatDoor
