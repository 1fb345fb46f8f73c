import Derived.Test.YtobhemaikomdaaaGreatDoorPRMoreToGE10
import Derived.Test.YtobhemaikomdaaaGreatDoorPTB13ToTB28
namespace Go.Proofs.YtobhemaikomdaaaGreatDoor
set_option linter.unusedVariables false
open Go.RowKit
def ctM (m : Int) (zs : List Int) (p : Nat) (e : Int) : Nat × Nat × Int :=
 if e ≠ 0 then (0, p, e) else if (C.countS zs p 1 m).2.2 ≠ 0 then (0, p, (C.countS zs p 1 m).2.2) else ((C.countS zs p 1 m).1.toNat, p + (C.countS zs p 1 m).2.1.toNat, 0)
def txM (m : Int) (zs : List Int) (p : Nat) (e : Int) : ByteArray × Nat × Int :=
 if e ≠ 0 then (.empty, p, e) else if (C.countS zs p 1 m).2.2 ≠ 0 then (.empty, p, (C.countS zs p 1 m).2.2) else (C.toStr ((zs.drop (p + (C.countS zs p 1 m).2.1.toNat)).take (C.countS zs p 1 m).1.toNat), p + (C.countS zs p 1 m).2.1.toNat + (C.countS zs p 1 m).1.toNat, 0)
theorem rd_ctM {zs : List Int} (hb : C.isBytes zs) (m : Int) : Rd1 zs (ctM m zs) (fun n => C.enc 10 (n : Int)) := by
 have hz : ∀ p, p <= zs.length -> (ctM m zs p 0).2.2 = 0 -> ∃ n s : Nat, C.countS zs p 1 m = ((n : Int), (s : Int), 0) /\ ctM m zs p 0 = (n, p + s, 0) := fun p hp h => by
  obtain ⟨n, s, e, hc⟩ : ∃ n s e, C.countS zs p 1 m = (n, s, e) := ⟨_, _, _, rfl⟩
  rw [ctM, if_neg (by simp), hc] at h
  by_cases he : e = 0
  ·subst he
   obtain ⟨_, f2⟩ := C.countS_facts zs hb p hp 1 m n s 0 hc
   obtain ⟨_, g1, _, _, g4, _⟩ := f2 rfl
   refine ⟨n.toNat, s.toNat, by rw [hc, Int.toNat_of_nonneg g4, Int.toNat_of_nonneg (by omega)], ?_⟩
   rw [ctM, if_neg (by simp), hc, if_neg (by simp)]
  ·rw [if_pos he] at h; exact absurd h he
 refine ⟨⟨fun p e h => by rw [ctM, if_pos h], fun p e hp => ?_, fun p hp h => ?_⟩, fun p hp h => ?_⟩
 ·by_cases he : e = 0
  ·subst he
   by_cases h : (ctM m zs p 0).2.2 = 0
   ·obtain ⟨n, s, hc, e⟩ := hz p hp h
    obtain ⟨_, _, _, h4, h5, _⟩ := C.takeS_ok hb hp (count_take hc)
    rw [e]; show p <= p + s /\ p + s <= zs.length
    simp at h5; omega
   ·have e : (ctM m zs p 0).2.1 = p := by
     rw [ctM, if_neg (by simp)] at h ⊢
     by_cases h1 : (C.countS zs p 1 m).2.2 ≠ 0
     ·rw [if_pos h1]
     ·rw [if_neg h1] at h; simp at h
    rw [e]; exact ⟨Nat.le_refl _, hp⟩
  ·have e : (ctM m zs p e).2.1 = p := by rw [ctM, if_pos he]
   rw [e]; exact ⟨Nat.le_refl _, hp⟩
 ·obtain ⟨n, s, hc, e⟩ := hz p hp h
  rw [e]
  have := (C.takeS_ok hb hp (count_take hc)).2.2.2.2.2
  simpa using this
 ·obtain ⟨n, s, hc, e⟩ := hz p hp h
  rw [e]
  have := (C.takeS_ok hb hp (count_take hc)).2.2.2.1
  simpa using this
theorem rd_txM {zs : List Int} (hb : C.isBytes zs) (m : Int) : Rd1 zs (txM m zs) encS := by
 have hz : ∀ p, p <= zs.length -> (txM m zs p 0).2.2 = 0 -> ∃ n s : Nat, C.countS zs p 1 m = ((n : Int), (s : Int), 0) /\ txM m zs p 0 = (C.toStr ((zs.drop (p + s)).take n), p + s + n, 0) /\ p + s + n <= zs.length /\ 1 <= s := fun p hp h => by
  obtain ⟨n, s, e, hc⟩ : ∃ n s e, C.countS zs p 1 m = (n, s, e) := ⟨_, _, _, rfl⟩
  rw [txM, if_neg (by simp), hc] at h
  by_cases he : e = 0
  ·subst he
   obtain ⟨_, f2⟩ := C.countS_facts zs hb p hp 1 m n s 0 hc
   obtain ⟨_, g1, _, g3, g4, _, g6, _⟩ := f2 rfl
   refine ⟨n.toNat, s.toNat, by rw [hc, Int.toNat_of_nonneg g4, Int.toNat_of_nonneg (by omega)], ?_, ?_, ?_⟩
   ·rw [txM, if_neg (by simp), hc, if_neg (by simp)]
   ·simp at g6; omega
   ·omega
  ·rw [if_pos he] at h; exact absurd h he
 refine ⟨⟨fun p e h => by rw [txM, if_pos h], fun p e hp => ?_, fun p hp h => ?_⟩, fun p hp h => ?_⟩
 ·by_cases he : e = 0
  ·subst he
   by_cases h : (txM m zs p 0).2.2 = 0
   ·obtain ⟨n, s, hc, e, h1, h2⟩ := hz p hp h
    rw [e]; show p <= p + s + n /\ p + s + n <= zs.length
    omega
   ·have e : (txM m zs p 0).2.1 = p := by
     rw [txM, if_neg (by simp)] at h ⊢
     by_cases h1 : (C.countS zs p 1 m).2.2 ≠ 0
     ·rw [if_pos h1]
     ·rw [if_neg h1] at h; simp at h
    rw [e]; exact ⟨Nat.le_refl _, hp⟩
  ·have e : (txM m zs p e).2.1 = p := by rw [txM, if_pos he]
   rw [e]; exact ⟨Nat.le_refl _, hp⟩
 ·obtain ⟨n, s, hc, e, h1, h2⟩ := hz p hp h
  rw [e]
  have ht := (C.takeS_ok hb hp (count_take hc)).2.2.2.2.2
  have hl : ((zs.drop (p + s)).take n).length = n := by rw [List.length_take, List.length_drop]; omega
  have hbt : C.isBytes ((zs.drop (p + s)).take n) := fun x hx => hb x (List.mem_of_mem_drop (List.mem_of_mem_take hx))
  have hsz : (C.toStr ((zs.drop (p + s)).take n)).size = n := by rw [<- C.strBytes_len, C.toStr_bytes _ hbt, hl]
  show zs.take (p + s + n) = zs.take p ++ (C.enc 10 ((C.toStr ((zs.drop (p + s)).take n)).size : Int) ++ C.strBytes (C.toStr ((zs.drop (p + s)).take n)))
  rw [hsz, C.toStr_bytes _ hbt, <- List.append_assoc, List.take_add]
  have ht' : zs.take (p + s) = zs.take p ++ C.enc 10 (n : Int) := by simpa using ht
  rw [ht']
 ·obtain ⟨n, s, hc, e, h1, h2⟩ := hz p hp h
  rw [e]; show p < p + s + n; omega
section
variable {wr : World} {r : Nat} {ao : Option Addr} {N cap : Nat} {zs : List Int} {pos : Nat} {err : Int}
theorem xctM {most : Int} (hmost : 0 <= most /\ most <= 9223372036854775807) (h : C.RInv wr r ao N cap zs pos err) (n p : Nat) (e : Int) (hn : ctM most zs pos err = (n, p, e)) :
  Calls Tryz.prog 77 #[.pointer (some ⟨r, 0, none⟩), .int .i64 1, .int .i64 most] wr (XE wr r ao N cap zs p e (.int .i64 (n : Int))) := by
 by_cases he : err = 0
 ·subst he
  obtain ⟨m, s, x, hc⟩ : ∃ m s x, C.countS zs pos 1 most = (m, s, x) := ⟨_, _, _, rfl⟩
  obtain ⟨f1, f2⟩ := C.countS_facts zs h.row.1 pos h.pos 1 most m s x hc
  rw [ctM, if_neg (by simp), hc] at hn
  by_cases hx : x = 0
  ·subst hx
   obtain ⟨_, g1, _, _, g4, _⟩ := f2 rfl
   rw [if_neg (by simp)] at hn
   simp only [Prod.mk.injEq] at hn
   obtain ⟨rfl, rfl, rfl⟩ := hn
   have es : ((s.toNat : Nat) : Int) = s := Int.toNat_of_nonneg (by omega)
   have em : ((m.toNat : Nat) : Int) = m := Int.toNat_of_nonneg g4
   rw [em]
   exact C.count_ok 1 most h (by omega) (by omega) (by omega) m s.toNat (by rw [es]; exact hc)
  ·rw [if_pos hx] at hn
   simp only [Prod.mk.injEq] at hn
   obtain ⟨rfl, rfl, rfl⟩ := hn
   obtain ⟨rfl, rfl⟩ := f1 hx
   exact C.count_err 1 most h (by omega) (by omega) (by omega) x hc
 ·rw [ctM, if_pos he] at hn
  simp only [Prod.mk.injEq] at hn
  obtain ⟨rfl, rfl, rfl⟩ := hn
  exact C.count_none 1 most h (by simpa using he) (by omega) (by omega)
theorem xtxM {most : Int} (hmost : 0 <= most /\ most <= 9223372036854775807) (h : C.RInv wr r ao N cap zs pos err) (s : ByteArray) (p : Nat) (e : Int) (hn : txM most zs pos err = (s, p, e)) :
  Calls Tryz.prog 75 #[.pointer (some ⟨r, 0, none⟩), .int .i64 most] wr (XE wr r ao N cap zs p e (.string s)) := by
 by_cases he : err = 0
 ·subst he
  obtain ⟨m, z, x, hc⟩ : ∃ m z x, C.countS zs pos 1 most = (m, z, x) := ⟨_, _, _, rfl⟩
  obtain ⟨f1, f2⟩ := C.countS_facts zs h.row.1 pos h.pos 1 most m z x hc
  rw [txM, if_neg (by simp), hc] at hn
  by_cases hx : x = 0
  ·subst hx
   obtain ⟨_, g1, _, _, g4, _⟩ := f2 rfl
   rw [if_neg (by simp)] at hn
   simp only [Prod.mk.injEq] at hn
   obtain ⟨rfl, rfl, rfl⟩ := hn
   have es : ((z.toNat : Nat) : Int) = z := Int.toNat_of_nonneg (by omega)
   have em : ((m.toNat : Nat) : Int) = m := Int.toNat_of_nonneg g4
   have hb : C.isBytes ((zs.drop (pos + z.toNat)).take m.toNat) := fun x hx => h.row.1 x (List.mem_of_mem_drop (List.mem_of_mem_take hx))
   refine (C.rtext_ok most h (by omega) (by omega) m.toNat z.toNat (by rw [es, em]; exact hc)).mono ?_
   rintro e w' ⟨str, rfl, hs, hR, hO⟩
   obtain rfl := C.strBytes_inj (hs.trans (C.toStr_bytes _ hb).symm)
   exact ⟨rfl, hR, hO⟩
  ·rw [if_pos hx] at hn
   simp only [Prod.mk.injEq] at hn
   obtain ⟨rfl, rfl, rfl⟩ := hn
   obtain ⟨rfl, rfl⟩ := f1 hx
   exact C.rtext_err most h (by omega) (by omega) x hc
 ·rw [txM, if_pos he] at hn
  simp only [Prod.mk.injEq] at hn
  obtain ⟨rfl, rfl, rfl⟩ := hn
  exact C.rtext_none most h (by simpa using he) (by omega)
theorem xintM {most : Int} (hmost : 0 <= most /\ most <= 9223372036854775807) (h : C.RInv wr r ao N cap zs pos err) (n : Int) (p : Nat) (e : Int) (hn : C.takeS zs pos err most = (n, p, e)) :
  Calls Tryz.prog 72 #[.pointer (some ⟨r, 0, none⟩), .int .i64 most] wr (XE wr r ao N cap zs p e (.int .i64 n)) := by
 have q := take_range h.row.1 most hmost.1 pos h.pos err
 rw [hn] at q
 exact C.rint_any most h hmost.1 hmost.2 n p e hn q.1 (by have := q.2; simp only at this; omega)
theorem xsgM {most : Int} (hmost : 0 <= most /\ most <= 9223372036854775807) (h : C.RInv wr r ao N cap zs pos err) (n : Int) (p : Nat) (e : Int) (hn : C.takeS zs pos err (2 * most) = (n, p, e)) :
  Calls Tryz.prog 73 #[.pointer (some ⟨r, 0, none⟩), .int .i64 most] wr (XE wr r ao N cap zs p e (.int .i64 (C.unfoldS n))) := by
 have q := take_range h.row.1 (2 * most) (by omega) pos h.pos err
 have f1 : C.foldS most = 2 * most := by unfold C.foldS; rw [if_neg (by omega)]
 rw [hn] at q
 exact C.rsigned_any most h hmost.1 hmost.2 n p e (by rw [f1]; exact hn) q.1 (by have := q.2; simp only at this; omega)
end
def cdF (t : TV) : Int :=
 if t.prod = -1 then (if t.kind < -4611686018427387904 ∨ 4611686018427387904 < t.kind then 4 else if t.kids.length ≠ 0 then 82 else 0)
 else if t.prod < 0 ∨ 1073741824 < t.prod ∨ t.kind ≠ 0 ∨ t.tx.toList ≠ [] then 4 else 0
def plB (t : TV) : List Int := C.enc 10 (t.prod + 1) ++ (if t.prod = -1 then C.enc 10 (C.foldS t.kind) ++ encS t.tx else C.enc 10 (t.kids.length : Int))
def encT (t : TV) : List Int := (preT t).flatMap plB
theorem encT_eq (t : TV) : encT t = plB t ++ t.kids.flatMap encT := by
 have e : ∀ l : List TV, (preL l).flatMap plB = l.flatMap encT := fun l => by
  induction l with
  | nil => rfl
  | cons a l ih => rw [preL, List.flatMap_cons, List.flatMap_append, List.flatMap_cons, <- ih]; rfl
 unfold encT
 rw [preT_eq, List.flatMap_cons, e]
 rfl
def CdT (t : TV) : Prop := AllP (fun x => cdF x = 0) t
theorem cd_leaf {t : TV} (h : cdF t = 0) (hp : t.prod = -1) : -4611686018427387904 <= t.kind /\ t.kind <= 4611686018427387904 /\ t.kids = [] := by
 unfold cdF at h
 rw [if_pos hp] at h
 split at h
 ·cases h
 ·split at h
  ·cases h
  ·rename_i q1 q2
   exact ⟨by omega, by omega, List.eq_nil_of_length_eq_zero (by omega)⟩
theorem cd_node {t : TV} (h : cdF t = 0) (hp : ¬ t.prod = -1) : 0 <= t.prod /\ t.prod <= 1073741824 /\ t.kind = 0 /\ t.tx.toList = [] := by
 unfold cdF at h
 rw [if_neg hp] at h
 split at h
 ·cases h
 ·rename_i q
  simp only [not_or, Decidable.not_not] at q
  exact ⟨by omega, by omega, q.2.2.1, q.2.2.2⟩
theorem cln_cd (t : TV) : CdT t -> samV (cln t) t := by
 induction t using TV.ind with
 | _ t ih =>
  intro h
  have h1 := AllP.here h
  rw [cln_eq]
  by_cases hp : t.prod = -1
  ·obtain ⟨a, b, c⟩ := cd_leaf h1 hp
   rw [if_pos hp]
   refine (samV_iff _ _).2 ⟨?_, fun i hi => by cases hi⟩
   unfold sgV
   show ((-1 : Int), t.kind, t.tx, 0) = _
   rw [c, hp]
   rfl
  ·obtain ⟨a, b, c, d⟩ := cd_node h1 hp
   rw [if_neg hp]
   refine (samV_iff _ _).2 ⟨?_, fun i hi hi' => ?_⟩
   ·unfold sgV
    show (t.prod, (0 : Int), ByteArray.empty, (t.kids.map cln).length) = _
    rw [c, ba_nil d, List.length_map]
   ·have e3 : (ndT ⟨t.prod, 0, t.kids.map cln⟩).kids[i]'hi = cln (t.kids[i]'hi') := by
     show (t.kids.map cln)[i]'(by simpa using hi') = _
     simp
    rw [e3]
    exact ih _ (List.getElem_mem hi') (AllP.kid h _ (List.getElem_mem hi'))
def plS (zs : List Int) (p : Nat) (e : Int) (A : AB) : AB × Nat × Int :=
 if (C.takeS zs p e 1073741825).1 - 1 < 0 then
  (clU2 (adA A (lfT (C.unfoldS (C.takeS zs (C.takeS zs p e 1073741825).2.1 (C.takeS zs p e 1073741825).2.2 9223372036854775808).1) (txM 16777216 zs (C.takeS zs (C.takeS zs p e 1073741825).2.1 (C.takeS zs p e 1073741825).2.2 9223372036854775808).2.1 (C.takeS zs (C.takeS zs p e 1073741825).2.1 (C.takeS zs p e 1073741825).2.2 9223372036854775808).2.2).1)),
   (txM 16777216 zs (C.takeS zs (C.takeS zs p e 1073741825).2.1 (C.takeS zs p e 1073741825).2.2 9223372036854775808).2.1 (C.takeS zs (C.takeS zs p e 1073741825).2.1 (C.takeS zs p e 1073741825).2.2 9223372036854775808).2.2).2)
 else (clU2 (A.1, ⟨(C.takeS zs p e 1073741825).1 - 1, (ctM 1073741824 zs (C.takeS zs p e 1073741825).2.1 (C.takeS zs p e 1073741825).2.2).1, []⟩ :: A.2), (ctM 1073741824 zs (C.takeS zs p e 1073741825).2.1 (C.takeS zs p e 1073741825).2.2).2)
def dcL (zs : List Int) : Nat -> AB -> Nat -> Int -> AB × Nat × Int
 | 0, A, p, e => (A, p, e)
 | n + 1, A, p, e => if wholeU A = true ∨ (C.endS zs p e).1 ≠ 0 /\ (C.endS zs p e).1 ≠ 12 then (A, p, e) else dcL zs n (plS zs p e A).1 (plS zs p e A).2.1 (plS zs p e A).2.2
theorem end0 (zs : List Int) (p : Nat) : ¬ ((C.endS zs p 0).1 ≠ 0 /\ (C.endS zs p 0).1 ≠ 12) := by
 unfold C.endS
 rw [if_neg (by simp)]
 split <;> simp
theorem dcL_go {zs : List Int} {n : Nat} {A : AB} {p : Nat} (hw : wholeU A = false) : dcL zs (n + 1) A p 0 = dcL zs n (plS zs p 0 A).1 (plS zs p 0 A).2.1 (plS zs p 0 A).2.2 := by
 rw [dcL, if_neg]
 rintro (h | h)
 ·rw [hw] at h; cases h
 ·exact end0 zs p h
theorem drop_split {β : Type} {l a b : List β} {u : Nat} (h : l.drop u = a ++ b) : l.length = u + a.length + b.length ∨ a ++ b = [] := by
 have := congrArg List.length h
 rw [List.length_drop, List.length_append] at this
 by_cases hu : u <= l.length
 ·exact .inl (by omega)
 ·right
  rw [<- h]
  exact List.drop_eq_nil_of_le (by omega)
theorem enc_posT (n : Int) : 0 < (C.enc 10 n).length := by
 rw [C.enc]
 split <;> simp
theorem takeS_enc {zs : List Int} {p : Nat} {n m : Int} {t : List Int} (hd : zs.drop p = C.enc 10 n ++ t) (h0 : 0 <= n) (h1 : n <= m) (h2 : n < 18446744073709551616) : C.takeS zs p 0 m = (n, p + (C.enc 10 n).length, 0) := by
 have hp : C.parse (zs.drop p) = (n, ((C.enc 10 n).length : Int), 0) := by rw [hd]; exact C.parse_enc n t h0 h2
 have hk : C.peekS zs p m = (n, ((C.enc 10 n).length : Int), 0) := by
  unfold C.peekS
  rw [hp, if_neg (by simp), if_neg (by simp; omega)]
 unfold C.takeS
 rw [if_neg (by simp), hk, if_neg (by simp)]
 simp
theorem ctM_enc {zs : List Int} {p : Nat} {k : Nat} {m : Int} {t : List Int} (hd : zs.drop p = C.enc 10 (k : Int) ++ t) (h1 : (k : Int) <= m) (h2 : (k : Int) < 18446744073709551616) (h3 : k <= t.length) : ctM m zs p 0 = (k, p + (C.enc 10 (k : Int)).length, 0) /\ C.countS zs p 1 m = ((k : Int), ((C.enc 10 (k : Int)).length : Int), 0) := by
 have hp : C.parse (zs.drop p) = ((k : Int), ((C.enc 10 (k : Int)).length : Int), 0) := by rw [hd]; exact C.parse_enc k t (by omega) h2
 have hk : C.peekS zs p m = ((k : Int), ((C.enc 10 (k : Int)).length : Int), 0) := by
  unfold C.peekS
  rw [hp, if_neg (by simp), if_neg (by simp; omega)]
 have hl : (zs.length : Int) - p - (C.enc 10 (k : Int)).length = t.length := by
  rcases drop_split hd with h | h
  ·omega
  ·have := enc_posT (k : Int)
   have h4 := congrArg List.length h
   rw [List.length_append, List.length_nil] at h4
   omega
 have hc : C.countS zs p 1 m = ((k : Int), ((C.enc 10 (k : Int)).length : Int), 0) := by
  unfold C.countS
  rw [if_neg (by omega), hk, if_neg (by simp), if_neg]
  dsimp only
  rw [Int.ediv_one, hl]
  omega
 refine ⟨?_, hc⟩
 unfold ctM
 rw [if_neg (by simp), hc, if_neg (by simp)]
 simp
theorem toStr_of (s : ByteArray) : C.toStr (C.strBytes s) = s := C.strBytes_inj (C.toStr_bytes _ (C.strBytes_bytes s))
theorem txM_enc {zs : List Int} {p : Nat} {m : Int} {s : ByteArray} {t : List Int} (hd : zs.drop p = encS s ++ t) (h1 : (s.size : Int) <= m) (h2 : (s.size : Int) < 18446744073709551616) : txM m zs p 0 = (s, p + (encS s).length, 0) := by
 unfold encS at hd
 rw [List.append_assoc] at hd
 obtain ⟨-, hc⟩ := ctM_enc (k := s.size) hd h1 h2 (by rw [List.length_append, C.strBytes_len]; omega)
 have hdr : zs.drop (p + (C.enc 10 (s.size : Int)).length) = C.strBytes s ++ t := by rw [<- List.drop_drop, hd, List.drop_left]
 unfold txM encS
 rw [if_neg (by simp), hc, if_neg (by simp)]
 dsimp only
 rw [Int.toNat_natCast, Int.toNat_natCast, hdr, List.take_left' (C.strBytes_len s), toStr_of, List.length_append, C.strBytes_len]
 simp only [Prod.mk.injEq, and_true, true_and]
 omega
theorem unfold_fold (n : Int) : C.unfoldS (C.foldS n) = n := by
 unfold C.foldS C.unfoldS
 split <;> split <;> omega
theorem encT_pos (t : TV) : 1 <= (encT t).length := by
 rw [encT_eq, List.length_append]
 unfold plB
 rw [List.length_append]
 have := enc_posT (t.prod + 1)
 omega
theorem kids_enc : ∀ l : List TV, l.length <= (l.flatMap encT).length
 | [] => Nat.zero_le _
 | a :: l => by
  have h1 := kids_enc l
  have h2 := encT_pos a
  rw [List.flatMap_cons, List.length_append, List.length_cons]
  omega
theorem drop_len {β : Type} {l a b : List β} {u : Nat} (h : l.drop u = a ++ b) (ha : 0 < a.length) : u + a.length + b.length = l.length := by
 rcases drop_split h with q | q
 ·omega
 ·have := congrArg List.length q
  rw [List.length_append, List.length_nil] at this
  omega
def SimE (t : TV) : Prop := ∀ (zs : List Int) (n : Nat) (A : AB) (p : Nat) (R : List Int), zs.length <= 16777216 -> zs.drop p = encT t ++ R -> wholeU A = false -> dcL zs (n + szT t) A p 0 = dcL zs n (clU2 (adA A (cln t))) (p + (encT t).length) 0
theorem simE_kids {zs : List Int} (hz : zs.length <= 16777216) {q : Int} {k : Nat} {D : List TV} {S : List FrB} {n : Nat} : ∀ (ks2 ks1 : List TV) (p : Nat) (R : List Int), ks2 ≠ [] -> (∀ t ∈ ks2, SimE t) -> k = ks1.length + ks2.length ->
  zs.drop p = ks2.flatMap encT ++ R -> dcL zs (n + szL ks2) (D, ⟨q, k, ks1⟩ :: S) p 0 = dcL zs n (clU2 (adA (D, S) (ndT ⟨q, k, ks1 ++ ks2.map cln⟩))) (p + (ks2.flatMap encT).length) 0
 | [], _, _, _, h, _, _, _ => absurd rfl h
 | t :: ks2, ks1, p, R, _, hs, hk, hd => by
  rw [List.flatMap_cons, List.append_assoc] at hd
  have hsim := hs t (List.mem_cons_self ..) zs (n + szL ks2) (D, ⟨q, k, ks1⟩ :: S) p _ hz hd rfl
  have e1 : n + szL (t :: ks2) = n + szL ks2 + szT t := by rw [szL_cons]; omega
  rw [e1, hsim]
  have e2 : adA (D, ⟨q, k, ks1⟩ :: S) (cln t) = (D, ⟨q, k, ks1 ++ [cln t]⟩ :: S) := rfl
  rw [e2, clU2_cons]
  cases ks2 with
  | nil =>
   rw [if_pos (by simp only [List.length_append, List.length_cons, List.length_nil] at hk ⊢; omega)]
   simp only [List.flatMap_cons, List.flatMap_nil, List.append_nil, List.map_cons, List.map_nil]
   rfl
  | cons t2 ks3 =>
   rw [if_neg (by simp only [List.length_append, List.length_cons, List.length_nil] at hk ⊢; omega)]
   have IH := simE_kids hz (q := q) (k := k) (D := D) (S := S) (n := n) (t2 :: ks3) (ks1 ++ [cln t]) (p + (encT t).length) R (by simp) (fun x hx => hs x (List.mem_cons_of_mem _ hx)) (by simp only [List.length_append, List.length_cons, List.length_nil] at hk ⊢; omega) (drop_app hd)
   rw [IH]
   have e3 : ks1 ++ [cln t] ++ (t2 :: ks3).map cln = ks1 ++ (t :: t2 :: ks3).map cln := by simp
   have e4 : p + (encT t).length + ((t2 :: ks3).flatMap encT).length = p + ((t :: t2 :: ks3).flatMap encT).length := by
    rw [List.flatMap_cons (xs := t2 :: ks3), List.length_append]; omega
   rw [e3, e4]
theorem simE_tree (t : TV) : CdT t -> SimE t := by
 induction t using TV.ind with
 | _ t ih =>
  intro h zs n A p R hz hd hw
  obtain ⟨D, S⟩ := A
  have h1 := AllP.here h
  rw [encT_eq] at hd
  by_cases hp : t.prod = -1
  ·obtain ⟨a, b, c⟩ := cd_leaf h1 hp
   have ep : plB t = C.enc 10 0 ++ (C.enc 10 (C.foldS t.kind) ++ encS t.tx) := by
    unfold plB
    rw [if_pos hp, hp]
    rfl
   rw [c, ep] at hd
   simp only [List.flatMap_nil, List.append_nil, List.append_assoc] at hd
   have hf : 0 <= C.foldS t.kind /\ C.foldS t.kind <= 9223372036854775808 := by unfold C.foldS; split <;> omega
   have hl := drop_len hd (enc_posT 0)
   simp only [List.length_append] at hl
   have hsz : t.tx.size <= (encS t.tx).length := by unfold encS; rw [List.length_append, C.strBytes_len]; omega
   have t1 := takeS_enc hd (m := 1073741825) (by omega) (by omega) (by omega)
   have hd2 := drop_app hd
   have t2 := takeS_enc hd2 (m := 9223372036854775808) hf.1 hf.2 (by omega)
   have hd3 := drop_app hd2
   have t3 := txM_enc hd3 (m := 16777216) (by omega) (by omega)
   have e0 : szT t = 0 + 1 := by rw [szT_eq, c]; rfl
   rw [e0, Nat.zero_add, dcL_go hw]
   have hst : plS zs p 0 (D, S) = (clU2 (adA (D, S) (lfT t.kind t.tx)), p + (C.enc 10 0).length + (C.enc 10 (C.foldS t.kind)).length + (encS t.tx).length, 0) := by
    unfold plS
    rw [t1]
    dsimp only
    rw [if_pos (by decide), t2]
    dsimp only
    rw [t3, unfold_fold]
   rw [hst]
   dsimp only
   have e3 : cln t = lfT t.kind t.tx := by rw [cln_eq, if_pos hp]
   have e4 : (encT t).length = (C.enc 10 0).length + (C.enc 10 (C.foldS t.kind)).length + (encS t.tx).length := by
    rw [encT_eq, c, ep]
    simp only [List.flatMap_nil, List.append_nil, List.length_append]
    omega
   rw [e3, e4]
   congr 1
   omega
  ·obtain ⟨a, b, c, d⟩ := cd_node h1 hp
   have ep : plB t = C.enc 10 (t.prod + 1) ++ C.enc 10 (t.kids.length : Int) := by
    unfold plB
    rw [if_neg hp]
   rw [ep] at hd
   simp only [List.append_assoc] at hd
   have hl := drop_len hd (enc_posT _)
   simp only [List.length_append] at hl
   have hkl := kids_enc t.kids
   have t1 := takeS_enc hd (m := 1073741825) (by omega) (by omega) (by omega)
   have hd2 := drop_app hd
   obtain ⟨t2, -⟩ := ctM_enc hd2 (m := 1073741824) (by omega) (by omega) (by rw [List.length_append]; omega)
   have hd3 := drop_app hd2
   have ez : n + szT t = (n + szL t.kids) + 1 := by rw [szT_eq]; omega
   rw [ez, dcL_go hw]
   have hst : plS zs p 0 (D, S) = (clU2 (D, ⟨t.prod, t.kids.length, []⟩ :: S), p + (C.enc 10 (t.prod + 1)).length + (C.enc 10 (t.kids.length : Int)).length, 0) := by
    unfold plS
    rw [t1]
    dsimp only
    rw [if_neg (by omega), t2]
    have e : t.prod + 1 - 1 = t.prod := by omega
    rw [e]
   rw [hst]
   dsimp only
   have e3 : cln t = ndT ⟨t.prod, 0, t.kids.map cln⟩ := by rw [cln_eq, if_neg hp]
   have e4 : (encT t).length = (C.enc 10 (t.prod + 1)).length + (C.enc 10 (t.kids.length : Int)).length + (t.kids.flatMap encT).length := by
    rw [encT_eq, ep]
    simp only [List.length_append]
   rw [clU2_cons, e4, e3]
   by_cases hk0 : t.kids = []
   ·rw [if_pos (by show 0 = t.kids.length; rw [hk0]; rfl), hk0]
    simp only [List.flatMap_nil, List.length_nil, Nat.add_zero, List.map_nil]
    have e5 : szL [] = 0 := rfl
    rw [e5, Nat.add_zero]
    congr 1
    all_goals omega
   ·have hpos := List.length_pos_iff.2 hk0
    rw [if_neg (by show ¬ 0 = t.kids.length; omega)]
    have := simE_kids hz (q := t.prod) (k := t.kids.length) (D := D) (S := S) (n := n) t.kids [] _ R hk0 (fun k hk => ih k hk (AllP.kid h k hk)) (by simp) hd3
    rw [this]
    congr 1
    omega
def decU (xs : List Int) : Option TV × Int × Int :=
 if (C.openS 3 xs).2.1 ≠ 0 then (none, (C.openS 3 xs).2.1, (C.openS 3 xs).2.2)
 else if (C.endS (C.openS 3 xs).1 (dcL (C.openS 3 xs).1 ((C.openS 3 xs).1.length + 2) ([], []) 0 0).2.1 (dcL (C.openS 3 xs).1 ((C.openS 3 xs).1.length + 2) ([], []) 0 0).2.2).1 ≠ 0 then
  (none, (C.endS (C.openS 3 xs).1 (dcL (C.openS 3 xs).1 ((C.openS 3 xs).1.length + 2) ([], []) 0 0).2.1 (dcL (C.openS 3 xs).1 ((C.openS 3 xs).1.length + 2) ([], []) 0 0).2.2).1, (xs.length : Int) - 4 - ((C.openS 3 xs).1.length : Int) + (C.endS (C.openS 3 xs).1 (dcL (C.openS 3 xs).1 ((C.openS 3 xs).1.length + 2) ([], []) 0 0).2.1 (dcL (C.openS 3 xs).1 ((C.openS 3 xs).1.length + 2) ([], []) 0 0).2.2).2)
 else ((dcL (C.openS 3 xs).1 ((C.openS 3 xs).1.length + 2) ([], []) 0 0).1.1.head?, 0, 0)
theorem sz_enc (t : TV) : szT t <= (encT t).length := by
 induction t using TV.ind with
 | _ t ih =>
  have e : ∀ l : List TV, (∀ k ∈ l, szT k <= (encT k).length) -> szL l <= (l.flatMap encT).length := fun l => by
   induction l with
   | nil => intro _; exact Nat.zero_le _
   | cons a l il =>
    intro h
    have h1 := h a (List.mem_cons_self ..)
    have h2 := il fun k hk => h k (List.mem_cons_of_mem _ hk)
    rw [szL_cons, List.flatMap_cons, List.length_append]
    omega
  have h2 := e _ ih
  rw [szT_eq, encT_eq, List.length_append]
  have h3 : 1 <= (plB t).length := by
   unfold plB
   rw [List.length_append]
   have := enc_posT (t.prod + 1)
   omega
  omega
theorem dec_enc {t : TV} (h : CdT t) (hz : (encT t).length <= 16777216) (n : Nat) (hn : szT t < n) : dcL (encT t) n ([], []) 0 0 = (([cln t], []), (encT t).length, 0) := by
 obtain ⟨k, rfl⟩ : ∃ k, n = k + 1 + szT t := ⟨n - 1 - szT t, by omega⟩
 have := simE_tree t h (encT t) (k + 1) ([], []) 0 [] hz (by simp) rfl
 rw [this, dcL, if_pos (.inl rfl), Nat.zero_add]
 rfl
def bsF (S : List FrB) : List Int := S.reverse.flatMap fun f => (C.enc 10 (f.p + 1) ++ C.enc 10 (f.k : Int)) ++ f.ks.flatMap encT
def bsA (A : AB) : List Int := A.1.flatMap encT ++ bsF A.2
theorem bsF_cons (f : FrB) (S : List FrB) : bsF (f :: S) = bsF S ++ ((C.enc 10 (f.p + 1) ++ C.enc 10 (f.k : Int)) ++ f.ks.flatMap encT) := by
 unfold bsF
 rw [List.reverse_cons, List.flatMap_append]
 simp
theorem bs_add (A : AB) (t : TV) : bsA (adA A t) = bsA A ++ encT t := by
 obtain ⟨D, S⟩ := A
 cases S with
 | nil =>
  show (D ++ [t]).flatMap encT ++ bsF [] = D.flatMap encT ++ bsF [] ++ _
  rw [List.flatMap_append]
  simp [bsF]
 | cons f S =>
  show D.flatMap encT ++ bsF (⟨f.p, f.k, f.ks ++ [t]⟩ :: S) = D.flatMap encT ++ bsF (f :: S) ++ _
  rw [bsF_cons, bsF_cons, List.flatMap_append]
  simp
theorem encT_nd (f : FrB) (h : 0 <= f.p) (hk : f.ks.length = f.k) : encT (ndT f) = (C.enc 10 (f.p + 1) ++ C.enc 10 (f.k : Int)) ++ f.ks.flatMap encT := by
 rw [encT_eq]
 show (C.enc 10 (f.p + 1) ++ (if f.p = -1 then _ else C.enc 10 (f.ks.length : Int))) ++ f.ks.flatMap encT = _
 rw [if_neg (by omega), hk]
theorem bs_cl : ∀ (S : List FrB) (D : List TV), (∀ f ∈ S, 0 <= f.p) -> bsA (clU2 (D, S)) = bsA (D, S)
 | [], D, _ => by rw [clU2_nil]
 | f :: S, D, hp => by
  rw [clU2_cons]
  by_cases hk : f.ks.length = f.k
  ·rw [if_pos hk]
   have e : bsA (adA (D, S) (ndT f)) = bsA (D, f :: S) := by
    rw [bs_add, encT_nd f (hp f (by simp)) hk]
    show D.flatMap encT ++ bsF S ++ _ = D.flatMap encT ++ bsF (f :: S)
    rw [bsF_cons, List.append_assoc]
   rw [<- e]
   cases S with
   | nil => exact bs_cl [] _ (fun _ h => by cases h)
   | cons g' S =>
    refine bs_cl (⟨g'.p, g'.k, g'.ks ++ [ndT f]⟩ :: S) D (fun x hx => ?_)
    rcases List.mem_cons.1 hx with rfl | hx
    ·exact hp g' (by simp)
    ·exact hp x (by simp [hx])
  ·rw [if_neg hk]
termination_by S => S.length
def EOk (f : FrB) : Prop := 0 <= f.p /\ f.p <= 1073741824 /\ ∀ k ∈ f.ks, CdT k
structure InB (A : AB) : Prop where
 wf : ∀ f ∈ A.2, EOk f
 dg : ∀ t ∈ A.1, CdT t
 d1 : A.1 = [] ∨ A.2 = [] /\ ∃ t, A.1 = [t]
theorem inB_add {S : List FrB} {t : TV} (h : ∀ f ∈ S, EOk f) (ht : CdT t) : InB (adA ([], S) t) := by
 refine ⟨fun x hx => ?_, fun x hx => ?_, ?_⟩
 ·cases S with
  | nil => cases hx
  | cons f S =>
   have hx' : x ∈ (⟨f.p, f.k, f.ks ++ [t]⟩ : FrB) :: S := hx
   rcases List.mem_cons.1 hx' with rfl | hx'
   ·obtain ⟨a, b, c⟩ := h f (by simp)
    refine ⟨a, b, fun k hk => ?_⟩
    rcases List.mem_append.1 hk with hk | hk
    ·exact c k hk
    ·simp only [List.mem_cons, List.not_mem_nil, or_false] at hk
     rw [hk]; exact ht
   ·exact h x (by simp [hx'])
 ·cases S with
  | nil =>
   have hx' : x ∈ [t] := hx
   simp only [List.mem_cons, List.not_mem_nil, or_false] at hx'
   rw [hx']; exact ht
  | cons f S => cases hx
 ·cases S with
  | nil => exact .inr ⟨rfl, t, rfl⟩
  | cons f S => exact .inl rfl
theorem cd_nd {f : FrB} (h : EOk f) : CdT (ndT f) := by
 obtain ⟨a, b, c⟩ := h
 refine AllP.mk ?_ c
 show cdF (ndT f) = 0
 unfold cdF
 have e1 : (ndT f).prod = f.p := rfl
 have e2 : (ndT f).kind = 0 := rfl
 have e3 : (ndT f).tx = ByteArray.empty := rfl
 rw [e1, e2, e3, if_neg (by omega), if_neg]
 simp only [not_or, Decidable.not_not]
 exact ⟨by omega, by omega, trivial, by rw [ByteArray.toList_eq]; rfl⟩
theorem inB_cl : ∀ (S : List FrB) (D : List TV), InB (D, S) -> InB (clU2 (D, S))
 | [], D, h => by rw [clU2_nil]; exact h
 | f :: S, D, h => by
  rw [clU2_cons]
  by_cases hk : f.ks.length = f.k
  ·rw [if_pos hk]
   have hD : D = [] := by
    rcases h.d1 with e | ⟨e, _⟩
    ·exact e
    ·cases e
   subst hD
   have hin := inB_add (S := S) (fun x hx => h.wf x (by simp [hx])) (cd_nd (h.wf f (by simp)))
   cases S with
   | nil => exact inB_cl [] _ hin
   | cons g' S => exact inB_cl (⟨g'.p, g'.k, g'.ks ++ [ndT f]⟩ :: S) [] hin
  ·rw [if_neg hk]
   exact h
termination_by S => S.length
structure InE (zs : List Int) (A : AB) (p : Nat) : Prop where
 b : InB A
 bs : bsA A = zs.take p
 sz : szA A <= p
 pl : p <= zs.length
theorem takeS_er {zs : List Int} (hb : C.isBytes zs) {p : Nat} (hp : p <= zs.length) (m : Int) {e : Int} (he : e = 0 ∨ e ≠ 12) : (C.takeS zs p e m).2.1 <= zs.length /\ ((C.takeS zs p e m).2.2 = 0 ∨ (C.takeS zs p e m).2.2 ≠ 12) /\ p <= (C.takeS zs p e m).2.1 := by
 have h1 := (rd_take hb m).mono p e hp
 refine ⟨h1.2, ?_, h1.1⟩
 by_cases h0 : e = 0
 ·subst h0
  obtain ⟨n, q, x, ht⟩ : ∃ n q x, C.takeS zs p 0 m = (n, q, x) := ⟨_, _, _, rfl⟩
  rw [ht]
  by_cases hx : x = 0
  ·exact .inl hx
  ·exact .inr (C.takeS_err hb hp ht hx).2.2
 ·rw [takeS_stuck zs p e m h0]
  right
  rcases he with he | he
  ·exact absurd he h0
  ·exact he
theorem countS_er {zs : List Int} (hb : C.isBytes zs) {p : Nat} {m : Int} (hm : 0 <= m) : (C.countS zs p 1 m).2.2 ≠ 12 := by
 have hx : C.isBytes (zs.drop p) := fun x hx => hb x (List.mem_of_mem_drop hx)
 obtain ⟨n, s, e, hpa⟩ : ∃ n s e, C.parse (zs.drop p) = (n, s, e) := ⟨_, _, _, rfl⟩
 have hf := (C.parse_facts _ hx n s e hpa).1
 unfold C.countS C.peekS
 rw [hpa]
 dsimp only
 rw [if_neg (by omega)]
 split
 ·dsimp only
  omega
 ·split
  ·simp
  ·dsimp only
   split
   ·omega
   ·split <;> simp
theorem ctM_er {zs : List Int} (hb : C.isBytes zs) {p : Nat} {m : Int} (hm : 0 <= m) {e : Int} (he : e = 0 ∨ e ≠ 12) : (ctM m zs p e).2.2 = 0 ∨ (ctM m zs p e).2.2 ≠ 12 := by
 unfold ctM
 by_cases h0 : e = 0
 ·rw [if_neg (by simpa using h0)]
  split
  ·exact .inr (countS_er hb hm)
  ·exact .inl rfl
 ·rw [if_pos h0]
  exact he
theorem txM_er {zs : List Int} (hb : C.isBytes zs) {p : Nat} {m : Int} (hm : 0 <= m) {e : Int} (he : e = 0 ∨ e ≠ 12) : (txM m zs p e).2.2 = 0 ∨ (txM m zs p e).2.2 ≠ 12 := by
 unfold txM
 by_cases h0 : e = 0
 ·rw [if_neg (by simpa using h0)]
  split
  ·exact .inr (countS_er hb hm)
  ·exact .inl rfl
 ·rw [if_pos h0]
  exact he
theorem plS_er {zs : List Int} (hb : C.isBytes zs) {p : Nat} (hp : p <= zs.length) (A : AB) : (plS zs p 0 A).2.1 <= zs.length /\ ((plS zs p 0 A).2.2 = 0 ∨ (plS zs p 0 A).2.2 ≠ 12) := by
 have h1 := takeS_er hb hp 1073741825 (e := 0) (.inl rfl)
 unfold plS
 split
 ·have h2 := takeS_er hb h1.1 9223372036854775808 h1.2.1
  exact ⟨((rd_txM hb 16777216).mono _ _ h2.1).2, txM_er hb (by decide) h2.2.1⟩
 ·exact ⟨((rd_ctM hb 1073741824).mono _ _ h1.1).2, ctM_er hb (by decide) h1.2.1⟩
theorem inE_step {zs : List Int} (hb : C.isBytes zs) {A : AB} {p : Nat} (h : InE zs A p) (hw : wholeU A = false) (h0 : (plS zs p 0 A).2.2 = 0) : InE zs (plS zs p 0 A).1 (plS zs p 0 A).2.1 /\ p < (plS zs p 0 A).2.1 := by
 obtain ⟨D, S⟩ := A
 have hD : D = [] := by
  rcases h.b.d1 with e | ⟨e, t, e'⟩
  ·exact e
  ·dsimp only at e e'
   subst e e'
   simp [wholeU] at hw
 subst hD
 have hpl := h.pl
 have hbs := h.bs
 have hsz := h.sz
 have hpos : ∀ f ∈ S, 0 <= f.p := fun f hf => (h.b.wf f hf).1
 obtain ⟨n, p1, e1, ht⟩ : ∃ n p1 e1, C.takeS zs p 0 1073741825 = (n, p1, e1) := ⟨_, _, _, rfl⟩
 have q1 := rd_take hb 1073741825
 have r1 := take_range hb 1073741825 (by decide) p hpl 0
 have m1 := q1.mono p 0 hpl
 have o1 := q1.ok p hpl
 have g1 := q1.more p hpl
 rw [ht] at r1 m1 o1 g1
 dsimp only at r1 m1 o1 g1
 unfold plS at h0 ⊢
 rw [ht] at h0 ⊢
 dsimp only at h0 ⊢
 split at h0
 ·rename_i hn
  rw [if_pos hn]
  obtain ⟨k, p2, e2, hk⟩ : ∃ k p2 e2, C.takeS zs p1 e1 9223372036854775808 = (k, p2, e2) := ⟨_, _, _, rfl⟩
  have q2 := rd_take hb 9223372036854775808
  have r2 := take_range hb 9223372036854775808 (by decide) p1 m1.2 e1
  have m2 := q2.mono p1 e1 m1.2
  rw [hk] at r2 m2 h0 ⊢
  dsimp only at r2 m2 h0 ⊢
  have q3 := rd_txM hb 16777216
  have e20 : e2 = 0 := q3.toRd.zero h0
  subst e20
  have e10 : e1 = 0 := q2.toRd.zero (p := p1) (by show (C.takeS zs p1 e1 9223372036854775808).2.2 = 0; rw [hk])
  subst e10
  have o2 := q2.ok p1 m1.2
  rw [hk] at o2
  dsimp only at o2
  obtain ⟨s, p3, e3, hs⟩ : ∃ s p3 e3, txM 16777216 zs p2 0 = (s, p3, e3) := ⟨_, _, _, rfl⟩
  have m3 := q3.mono p2 0 m2.2
  have o3 := q3.ok p2 m2.2
  rw [hs] at m3 o3 h0 ⊢
  dsimp only at m3 o3 h0 ⊢
  have n0 : n = 0 := by omega
  subst n0
  have b1 := o1 rfl
  have b2 := o2 rfl
  have b3 := o3 h0
  have gp := g1 rfl
  have hku : -4611686018427387904 <= C.unfoldS k /\ C.unfoldS k <= 4611686018427387904 := by
   unfold C.unfoldS
   split <;> omega
  have hcd : CdT (lfT (C.unfoldS k) s) := by
   refine AllP.mk ?_ (fun k' hk' => by cases hk')
   show cdF (lfT (C.unfoldS k) s) = 0
   unfold cdF
   have a1 : (lfT (C.unfoldS k) s).prod = -1 := rfl
   have a2 : (lfT (C.unfoldS k) s).kind = C.unfoldS k := rfl
   have a3 : (lfT (C.unfoldS k) s).kids = [] := rfl
   rw [a1, a2, a3, if_pos rfl, if_neg (by omega), if_neg (by simp)]
  have hin := inB_add (S := S) (fun f hf => h.b.wf f hf) hcd
  have hp2 : ∀ f ∈ (adA ([], S) (lfT (C.unfoldS k) s)).2, 0 <= f.p := fun f hf => (hin.wf f hf).1
  refine ⟨⟨inB_cl _ _ hin, ?_, ?_, m3.2⟩, by omega⟩
  ·rw [show clU2 (adA ([], S) (lfT (C.unfoldS k) s)) = clU2 ((adA ([], S) (lfT (C.unfoldS k) s)).1, (adA ([], S) (lfT (C.unfoldS k) s)).2) from rfl, bs_cl _ _ hp2]
   show bsA (adA ([], S) (lfT (C.unfoldS k) s)) = _
   rw [bs_add, hbs, b3, b2, b1]
   have ee : encT (lfT (C.unfoldS k) s) = C.enc 10 0 ++ (C.enc 10 k ++ encS s) := by
    rw [encT_eq]
    show (C.enc 10 (-1 + 1) ++ (if (-1 : Int) = -1 then C.enc 10 (C.foldS (C.unfoldS k)) ++ encS s else _)) ++ [] = _
    rw [if_pos rfl, fold_unfold k r2.1, List.append_nil]
    rfl
   rw [ee]
   simp only [List.append_assoc]
  ·rw [szA_clU, szA_ad]
   have : szT (lfT (C.unfoldS k) s) = 1 := by rw [szT_eq]; rfl
   omega
 ·rename_i hn
  rw [if_neg hn]
  have q3 := rd_ctM hb 1073741824
  have e10 : e1 = 0 := q3.toRd.zero h0
  subst e10
  obtain ⟨c, p2, e2, hc⟩ : ∃ c p2 e2, ctM 1073741824 zs p1 0 = (c, p2, e2) := ⟨_, _, _, rfl⟩
  have m3 := q3.mono p1 0 m1.2
  have o3 := q3.ok p1 m1.2
  rw [hc] at m3 o3 h0 ⊢
  dsimp only at m3 o3 h0 ⊢
  have b1 := o1 rfl
  have b3 := o3 h0
  have gp := g1 rfl
  have hin : InB ([], (⟨n - 1, c, []⟩ : FrB) :: S) := by
   refine ⟨fun f hf => ?_, (fun t ht => by cases ht), .inl rfl⟩
   rcases List.mem_cons.1 hf with rfl | hf
   ·exact ⟨by show 0 <= n - 1; omega, by show n - 1 <= _; omega, fun k hk => by cases hk⟩
   ·exact h.b.wf f hf
  refine ⟨⟨inB_cl _ _ hin, ?_, ?_, m3.2⟩, by omega⟩
  ·rw [bs_cl _ _ fun f hf => (hin.wf f hf).1, b3, b1, <- hbs]
   show [] ++ bsF ((⟨n - 1, c, []⟩ : FrB) :: S) = [] ++ bsF S ++ _ ++ _
   rw [bsF_cons]
   show [] ++ (bsF S ++ ((C.enc 10 (n - 1 + 1) ++ C.enc 10 (c : Int)) ++ [])) = _
   rw [show n - 1 + 1 = n by omega]
   simp only [List.append_assoc, List.nil_append, List.append_nil]
  ·rw [show clU2 ([], (⟨n - 1, c, []⟩ : FrB) :: S) = clU2 (([], (⟨n - 1, c, []⟩ : FrB) :: S) : AB) from rfl, szA_clU]
   have e1 : szA ([], (⟨n - 1, c, []⟩ : FrB) :: S) = 1 + szA ([], S) := by
    show szL [] + szF _ = 1 + (szL [] + szF S)
    rw [szF_cons]
    show szL [] + (1 + szL [] + szF S) = _
    have : szL [] = 0 := rfl
    omega
   rw [e1]
   omega
theorem dcL_ok {zs : List Int} (hb : C.isBytes zs) : ∀ (n : Nat) (A : AB) (p : Nat), zs.length + 1 < n + p -> InE zs A p -> ((dcL zs n A p 0).2.2 ≠ 0 /\ (dcL zs n A p 0).2.2 ≠ 12 /\ (dcL zs n A p 0).2.1 <= zs.length) ∨ ((dcL zs n A p 0).2.2 = 0 /\ wholeU (dcL zs n A p 0).1 = true /\ InE zs (dcL zs n A p 0).1 (dcL zs n A p 0).2.1)
 | 0, A, p, hn, h => by have := h.pl; omega
 | n + 1, A, p, hn, h => by
  cases hw : wholeU A with
  | true =>
   rw [dcL, if_pos (.inl hw)]
   exact .inr ⟨rfl, hw, h⟩
  | false =>
   rw [dcL_go hw]
   obtain ⟨h1, h2⟩ := plS_er hb h.pl A
   by_cases h0 : (plS zs p 0 A).2.2 = 0
   ·obtain ⟨h3, h4⟩ := inE_step hb h hw h0
    rw [h0]
    exact dcL_ok hb n _ _ (by omega) h3
   ·have h12 : (plS zs p 0 A).2.2 ≠ 12 := by
     rcases h2 with h2 | h2
     ·exact absurd h2 h0
     ·exact h2
    left
    have e : dcL zs n (plS zs p 0 A).1 (plS zs p 0 A).2.1 (plS zs p 0 A).2.2 = ((plS zs p 0 A).1, (plS zs p 0 A).2.1, (plS zs p 0 A).2.2) := by
     cases n with
     | zero => rfl
     | succ n =>
      rw [dcL, if_pos]
      right
      unfold C.endS
      rw [if_pos h0]
      exact ⟨h0, h12⟩
    rw [e]
    exact ⟨h0, h12, h1⟩
theorem dec_back {zs : List Int} (hb : C.isBytes zs) : (C.endS zs (dcL zs (zs.length + 2) ([], []) 0 0).2.1 (dcL zs (zs.length + 2) ([], []) 0 0).2.2).1 = 0 -> ∃ t, dcL zs (zs.length + 2) ([], []) 0 0 = (([t], []), zs.length, 0) /\ CdT t /\ encT t = zs := by
 intro he
 have h := dcL_ok hb (zs.length + 2) ([], []) 0 (by omega) ⟨⟨(fun f hf => by cases hf), (fun t ht => by cases ht), .inl rfl⟩, rfl, Nat.le_refl _, Nat.zero_le _⟩
 obtain ⟨A, p, e, hr⟩ : ∃ A p e, dcL zs (zs.length + 2) ([], []) 0 0 = (A, p, e) := ⟨_, _, _, rfl⟩
 rw [hr] at h he ⊢
 dsimp only at h he
 rcases h with ⟨h1, -, -⟩ | ⟨h1, h2, h3⟩
 ·unfold C.endS at he
  rw [if_pos h1] at he
  exact absurd he h1
 ·subst h1
  have hp : p = zs.length := by
   have := h3.pl
   unfold C.endS at he
   rw [if_neg (by simp)] at he
   by_cases q : p < zs.length
   ·rw [if_pos q] at he; cases he
   ·omega
  subst hp
  obtain ⟨D, S⟩ := A
  unfold wholeU at h2
  simp only [Bool.and_eq_true, Bool.not_eq_true', List.isEmpty_iff, List.isEmpty_eq_false_iff] at h2
  obtain ⟨hS, hD⟩ := h2
  subst hS
  rcases h3.b.d1 with e | ⟨_, t, e⟩
  ·exact absurd e hD
  ·dsimp only at e
   subst e
   refine ⟨t, rfl, h3.b.dg t (List.mem_cons_self ..), ?_⟩
   have := h3.bs
   rw [List.take_length] at this
   rw [<- this]
   simp [bsA, bsF]
end Go.Proofs.YtobhemaikomdaaaGreatDoor
