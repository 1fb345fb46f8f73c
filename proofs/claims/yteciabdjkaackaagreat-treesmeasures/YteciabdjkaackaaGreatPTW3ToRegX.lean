import Derived.Test.YteciabdjkaackaaGreatPTW1ToTTS
import Derived.Deep.RegionHeld3
import Derived.StillTail
import Derived.WalkKit
namespace Go.Proofs.YteciabdjkaackaaGreat
set_option linter.unusedVariables false
open Go.RowKit
structure TBx (w : World) (p q : Nat) (t : TV) : Prop where
 lt : p < w.heap.size
 c0 : w.cell? ⟨p, q, none⟩ = some (.int .i64 t.prod)
 c1 : w.cell? ⟨p, q + 1, none⟩ = some (.int .i64 t.kind)
 c2 : w.cell? ⟨p, q + 2, none⟩ = some (.string t.tx)
 c3 : w.cell? ⟨p, q + 3, none⟩ = some (.slice t.ka t.kids.length t.kc)
theorem TBx.later {w w' : World} {p q : Nat} {t : TV} (h : TBx w p q t) (hb : Below w.heap.size w w') : TBx w' p q t := by
 have e : ∀ j, w'.cell? ⟨p, j, none⟩ = w.cell? ⟨p, j, none⟩ := fun j => hb.cell (p := ⟨p, j, none⟩) h.lt
 exact ⟨Nat.lt_of_lt_of_le h.lt hb.size, (e _).trans h.c0, (e _).trans h.c1, (e _).trans h.c2, (e _).trans h.c3⟩
structure EV where
 en : Bool
 p : Nat
 q : Nat
 t : TV
def kadr (t : TV) : Nat × Nat := match t.ka with
 | some a => (a.block, a.off)
 | none => (0, 0)
def kidF (b o : Nat) : Nat -> List TV -> List (Nat × Nat × TV)
 | _, [] => []
 | i, k :: l => (b, o + i * 4, k) :: kidF b o (i + 1) l
def kidsA (t : TV) : List (Nat × Nat × TV) := kidF (kadr t).1 (kadr t).2 0 t.kids
theorem kidF_mem {b o : Nat} {x : Nat × Nat × TV} : ∀ {i : Nat} {l : List TV}, x ∈ kidF b o i l -> x.2.2 ∈ l
 | _, [], h => by cases h
 | i, k :: l, h => by
  rcases List.mem_cons.1 h with rfl | h
  ·exact List.mem_cons_self
  ·exact List.mem_cons_of_mem _ (kidF_mem h)
theorem kidF_len (b o : Nat) : ∀ (i : Nat) (l : List TV), (kidF b o i l).length = l.length
 | _, [] => rfl
 | i, k :: l => by simp [kidF, kidF_len b o (i + 1) l]
theorem kidF_get (b o : Nat) : ∀ (i : Nat) (l : List TV) (j : Nat) (h : j < l.length), (kidF b o i l)[j]? = some (b, o + (i + j) * 4, l[j])
 | i, k :: l, 0, _ => by simp [kidF]
 | i, k :: l, j + 1, h => by
  have := kidF_get b o (i + 1) l j (by simpa using h)
  rw [kidF, List.getElem?_cons_succ, this]
  simp only [List.getElem_cons_succ]
  congr 4
  omega
def evF : Nat -> Nat -> Nat -> TV -> List EV
 | 0, _, _, _ => []
 | n + 1, p, q, t => ⟨true, p, q, t⟩ :: ((kidsA t).flatMap fun x => evF n x.1 x.2.1 x.2.2) ++ [⟨false, p, q, t⟩]
def evT (p q : Nat) (t : TV) : List EV := evF (tsz t) p q t
def evL (l : List (Nat × Nat × TV)) : List EV := l.flatMap fun x => evT x.1 x.2.1 x.2.2
theorem evF_any : ∀ (n m : Nat) (p q : Nat) (t : TV), tsz t <= n -> tsz t <= m -> evF n p q t = evF m p q t
 | 0, _, _, _, t, h, _ => by have := tsz_pos t; omega
 | _ + 1, 0, _, _, t, _, h => by have := tsz_pos t; omega
 | n + 1, m + 1, p, q, t, h, h' => by
  rw [evF, evF]
  congr 2
  exact fm_congr _ (fun x hx => evF_any n m _ _ _ (by have := kid_lt (kidF_mem hx); omega) (by have := kid_lt (kidF_mem hx); omega))
theorem evT_eq (p q : Nat) (t : TV) : evT p q t = ⟨true, p, q, t⟩ :: evL (kidsA t) ++ [⟨false, p, q, t⟩] := by
 obtain ⟨n, hn⟩ : ∃ n, tsz t = n + 1 := ⟨tsz t - 1, by have := tsz_pos t; omega⟩
 unfold evT evL
 rw [hn, evF]
 congr 2
 exact fm_congr _ (fun x hx => evF_any _ _ _ _ _ (by have := kid_lt (kidF_mem hx); omega) (Nat.le_refl _))
theorem evL_cons (x : Nat × Nat × TV) (l : List (Nat × Nat × TV)) : evL (x :: l) = evT x.1 x.2.1 x.2.2 ++ evL l := rfl
theorem evL_lens (b o : Nat) : ∀ (i : Nat) (l : List TV), (∀ k ∈ l, ∀ p q, (evT p q k).length = 2 * szT k) -> (evL (kidF b o i l)).length = 2 * szL l
 | _, [], _ => rfl
 | i, k :: l, h => by
  rw [kidF, evL_cons, List.length_append, h k List.mem_cons_self, evL_lens b o (i + 1) l (fun k' hk => h k' (List.mem_cons_of_mem _ hk))]
  simp [szL]
  omega
theorem evT_len (t : TV) : ∀ p q, (evT p q t).length = 2 * szT t := by
 induction t using TV.ind with
 | _ t ih =>
  intro p q
  rw [evT_eq, szT_eq]
  have := evL_lens (kadr t).1 (kadr t).2 0 t.kids ih
  simp only [List.cons_append, List.length_cons, List.length_append, List.length_nil]
  unfold kidsA
  omega
structure ZV where
 p : Nat
 q : Nat
 t : TV
 n : Nat
def ZV.pa (z : ZV) : PA := (z.p, z.q, z.n)
def remZ : List ZV -> List EV
 | [] => []
 | z :: l => evL ((kidsA z.t).drop z.n) ++ (⟨false, z.p, z.q, z.t⟩ :: remZ l)
theorem remZ_len : ∀ l : List ZV, l.length <= (remZ l).length
 | [] => Nat.le_refl _
 | z :: l => by
  have := remZ_len l
  simp only [remZ, List.length_append, List.length_cons]
  omega
structure RdC (w0 : World) (p0 q0 : Nat) (t0 : TV) (St : List EV -> World -> Prop) (Fin : World -> Prop) (E L : FuncId) (ec lc : Array Value) : Prop where
 ee : EntW E
 el : EntW L
 tb : TBx w0 p0 q0 t0
 ta : TAt w0 t0
 sz : szT t0 <= 100000000
 still : ∀ D w w', St D w -> NoStp w0.heap.size w w' -> St D w'
 bel : ∀ D w, St D w -> Below w0.heap.size w0 w
 enter : ∀ D p q t R, D ++ ⟨true, p, q, t⟩ :: R = evT p0 q0 t0 -> TBx w0 p q t -> ∀ w, St D w -> Calls Tryz.prog E (#[.pointer (some ⟨p, q, none⟩)] ++ ec) w fun e w' => ∃ r, e = .returned (.bool r) /\ OnStp w0.heap.size w w' /\ (r = true -> St (D ++ [⟨true, p, q, t⟩]) w') /\ (r = false -> Fin w')
 leave : ∀ D p q t R, D ++ ⟨false, p, q, t⟩ :: R = evT p0 q0 t0 -> TBx w0 p q t -> ∀ w, St D w -> Calls Tryz.prog L (#[.pointer (some ⟨p, q, none⟩)] ++ lc) w fun e w' => e = .returned (.tuple #[]) /\ OnStp w0.heap.size w w' /\ St (D ++ [⟨false, p, q, t⟩]) w'
structure RdI (w0 : World) (p0 q0 : Nat) (t0 : TV) (St : List EV -> World -> Prop) (x : List EV × List ZV) (S : List PA) (w : World) : Prop where
 st : St x.1 w
 sk : S = x.2.map ZV.pa
 re : x.1 ++ remZ x.2.reverse = evT p0 q0 t0
 zz : ∀ z ∈ x.2, TBx w0 z.p z.q z.t /\ TAt w0 z.t /\ z.n <= z.t.kids.length /\ szT z.t <= 100000000
theorem krow_kid {w : World} {ao : Option Addr} {l : List TV} (h : KRow w ao l) {n : Nat} (hn : n < l.length) : ∃ b off, ao = some ⟨b, off, none⟩ /\ TBx w b (off + n * 4) l[n] := by
 obtain ⟨b, off, e, hb, hc⟩ := h (by intro e; rw [e] at hn; simp at hn)
 obtain ⟨c0, c1, c2, c3⟩ := hc n hn
 have eg : l.getD n .none = l[n] := by simp [List.getD, hn]
 rw [eg] at c0 c1 c2 c3
 exact ⟨b, off, e, hb, c0, c1, c2, c3⟩
set_option maxHeartbeats 1000000 in
theorem walkAround_R {w0 : World} {p0 q0 : Nat} {t0 : TV} {St : List EV -> World -> Prop} {Fin : World -> Prop} {E L : FuncId} {ec lc : Array Value} (h : RdC w0 p0 q0 t0 St Fin E L ec lc) (w : World) (hw : St [] w) :
  Calls Tryz.prog 34 #[.pointer (some ⟨p0, q0, none⟩), fnV E ec, fnV L lc] w fun e w' => e = .returned (.tuple #[]) /\ (St (evT p0 q0 t0) w' ∨ Fin w') := by
 have hbl := h.bel _ _ hw
 refine walkAround_W (N := w0.heap.size) (I := RdI w0 p0 q0 t0 St) (μ := fun x => (remZ x.2.reverse).length) (Post := fun w' => St (evT p0 q0 t0) w' ∨ Fin w') ?_ p0 q0 w hbl.size ?_
 ·refine ⟨h.ee, h.el, fun x S w w' hi hn => ⟨h.still _ _ _ hi.st hn, hi.sk, hi.re, hi.zz⟩, fun x S w hi => ?_, fun x w hi => ?_, fun x S p q n w hi b m c hs => ?_, fun x S p q n w hi => ?_⟩
  ·have h1 := remZ_len x.2.reverse
   have h2 := congrArg List.length hi.re
   have h3 := evT_len t0 p0 q0
   have h4 := h.sz
   rw [hi.sk, List.length_map]
   rw [List.length_append] at h2
   rw [List.length_reverse] at h1
   omega
  ·have : x.2 = [] := by have := hi.sk; simpa using this.symm
   have hr := hi.re
   rw [this] at hr
   simp only [List.reverse_nil, remZ, List.append_nil] at hr
   rw [<- hr]
   exact .inl hi.st
  ·obtain ⟨Z, z, hz⟩ : ∃ Z z, x.2 = Z ++ [z] := by
    have : x.2 ≠ [] := fun e => by have := hi.sk; rw [e] at this; simp at this
    exact ⟨x.2.dropLast, x.2.getLast this, (List.dropLast_concat_getLast this).symm⟩
   have hk := hi.sk
   rw [hz, List.map_append, List.map_singleton] at hk
   have he := List.append_inj' hk rfl
   have hzp : (p, q, n) = z.pa := by simpa using he.2
   have hl := (hi.zz z (by rw [hz]; simp)).1.lt
   have hb := hs.2 b rfl
   unfold ZV.pa at hzp
   simp only [Prod.mk.injEq] at hzp
   omega
  ·obtain ⟨Z, z, hz⟩ : ∃ Z z, x.2 = Z ++ [z] := by
    have : x.2 ≠ [] := fun e => by have := hi.sk; rw [e] at this; simp at this
    exact ⟨x.2.dropLast, x.2.getLast this, (List.dropLast_concat_getLast this).symm⟩
   obtain ⟨D, X⟩ := x
   obtain rfl : X = Z ++ [z] := hz
   have hk := hi.sk
   rw [List.map_append, List.map_singleton] at hk
   have he := List.append_inj' hk rfl
   have hzp : (p, q, n) = z.pa := by simpa using he.2
   have hS : S = Z.map ZV.pa := he.1
   obtain ⟨zp, zq, zt, zn⟩ := z
   unfold ZV.pa at hzp
   simp only [Prod.mk.injEq] at hzp
   obtain ⟨rfl, rfl, rfl⟩ := hzp
   obtain ⟨hz1, hz2, hz3, hz4⟩ := hi.zz ⟨p, q, zt, n⟩ (by simp)
   dsimp only at hz1 hz2 hz3 hz4
   have hb := h.bel _ _ hi.st
   have hre := hi.re
   dsimp only at hre
   rw [List.reverse_append, List.reverse_singleton, List.singleton_append, remZ] at hre
   have hkl : (kidsA zt).length = zt.kids.length := kidF_len _ _ _ _
   refine ⟨zt.ka, zt.kids.length, zt.kc, (hz1.later hb).c3, hz3, ?_, fun hn => ?_, fun hn => ?_⟩
   ·have h1 := szT_eq zt
    have h2 := szL_len zt.kids
    omega
   ·have hd : (kidsA zt).drop n = [] := by rw [List.drop_eq_nil_iff]; omega
    rw [hd] at hre
    simp only [evL, List.flatMap_nil, List.nil_append] at hre
    refine (h.leave D p q zt _ hre hz1 w hi.st).mono fun e w' ⟨e1, e2, e3⟩ => ⟨e1, e2, (D ++ [⟨false, p, q, zt⟩], Z), ?_, e3, hS, ?_, fun z hz => hi.zz z (List.mem_append_left _ hz)⟩
    ·show (remZ Z.reverse).length < (remZ (Z ++ [_]).reverse).length
     rw [List.reverse_append, List.reverse_singleton, List.singleton_append, remZ]
     simp
     omega
    ·show (D ++ [_]) ++ remZ Z.reverse = _
     rw [<- hre]
     simp
   ·obtain ⟨b, off, hka, hkt⟩ := krow_kid hz2.row hn
    have hkd : kadr zt = (b, off) := by unfold kadr; rw [hka]
    have hd : (kidsA zt).drop n = (b, off + n * 4, zt.kids[n]) :: (kidsA zt).drop (n + 1) := by
     have := kidF_get b off 0 zt.kids n hn
     rw [List.drop_eq_getElem_cons (by omega)]
     congr 1
     have e : (kidsA zt)[n]? = some (b, off + n * 4, zt.kids[n]) := by
      unfold kidsA
      rw [hkd]
      simpa using this
     rw [List.getElem?_eq_getElem (by omega)] at e
     exact Option.some.inj e
    have hrn := hre
    rw [hd, evL_cons, evT_eq] at hrn
    dsimp only at hrn
    refine ⟨b, off, hka, (h.enter D b (off + n * 4) zt.kids[n] (evL (kidsA zt.kids[n]) ++ ((⟨false, b, off + n * 4, zt.kids[n]⟩ : EV) :: (evL ((kidsA zt).drop (n + 1)) ++ ((⟨false, p, q, zt⟩ : EV) :: remZ Z.reverse)))) ?_ hkt w hi.st).mono fun e w' ⟨r, e1, e2, e3, e4⟩ => ⟨r, e1, e2, fun hr => ⟨((D ++ [(⟨true, b, off + n * 4, zt.kids[n]⟩ : EV)], Z ++ [(⟨p, q, zt, n + 1⟩ : ZV)] ++ [(⟨b, off + n * 4, zt.kids[n], 0⟩ : ZV)]) : List EV × List ZV), ?_, e3 hr, ?_, ?_, ?_⟩, fun hr => .inr (e4 hr)⟩⟩
    ·rw [<- hrn]; simp
    ·show (remZ (Z ++ [_] ++ [_]).reverse).length < (remZ (Z ++ [_]).reverse).length
     simp only [List.reverse_append, List.reverse_singleton, List.singleton_append, remZ, List.drop_zero]
     rw [hd, evL_cons, evT_eq]
     simp
    ·rw [hS]; simp [ZV.pa]
    ·simp only [List.reverse_append, List.reverse_singleton, List.singleton_append, remZ, List.drop_zero]
     rw [<- hrn]; simp
    ·intro z hz
     rcases List.mem_append.1 hz with hz | hz
     ·rcases List.mem_append.1 hz with hz | hz
      ·exact hi.zz z (List.mem_append_left _ hz)
      ·simp only [List.mem_cons, List.not_mem_nil, or_false] at hz
       subst hz
       exact ⟨hz1, hz2, hn, hz4⟩
     ·simp only [List.mem_cons, List.not_mem_nil, or_false] at hz
      subst hz
      exact ⟨hkt, hz2.kid _ (List.getElem_mem hn), Nat.zero_le _, by
       have h1 := szL_mem (List.getElem_mem hn)
       have h2 := szT_eq zt
       show szT zt.kids[n] <= _
       omega⟩
 ·have he := evT_eq p0 q0 t0
  refine (h.enter [] p0 q0 t0 (evL (kidsA t0) ++ [⟨false, p0, q0, t0⟩]) (by rw [he]; rfl) h.tb w hw).mono fun e w' ⟨r, e1, e2, e3, e4⟩ => ⟨r, e1, e2.size, fun hr => ⟨([⟨true, p0, q0, t0⟩], [⟨p0, q0, t0, 0⟩]), e3 hr, rfl, ?_, ?_⟩, fun hr => .inr (e4 hr)⟩
  ·show [_] ++ remZ [_] = _
   rw [he, remZ, remZ]
   simp
  ·intro z hz
   simp only [List.mem_cons, List.not_mem_nil, or_false] at hz
   subst hz
   exact ⟨h.tb, h.ta, Nat.zero_le _, h.sz⟩
set_option maxRecDepth 100000 in
set_option maxHeartbeats 2000000 in
theorem isLeaf_W (p q : Nat) (t : TV) (w : World) (h : TBx w p q t) : Calls Tryz.prog 36 #[.pointer (some ⟨p, q, none⟩)] w fun e w' => e = .returned (.bool (t.prod == -1)) /\ w' = w := by
 have c0 := h.c0
 clear h
 go_enter Tryz.func36, Tryz.ntmps36
 go_wp2
 go_ret
 exact ⟨rfl, rfl⟩
theorem leave1_W (p q : Nat) (w : World) : Calls Tryz.prog 77 #[.pointer (some ⟨p, q, none⟩)] w fun e w' => e = .returned (.tuple #[]) /\ w' = w := by
 go_enter Tryz.func77, Tryz.ntmps77
 go_wp2
 refine bodyPost_end (results_none rfl _ _ _) rfl ?_
 exact ⟨rfl, rfl⟩
theorem ent_leave1 : EntW 77 := fun _ _ => by kernel_rfl
structure RdW (w0 : World) (p0 q0 : Nat) (t0 : TV) (St : List EV -> World -> Prop) (Fin : World -> Prop) (E : FuncId) (ec : Array Value) : Prop where
 ee : EntW E
 tb : TBx w0 p0 q0 t0
 ta : TAt w0 t0
 sz : szT t0 <= 100000000
 still : ∀ D w w', St D w -> NoStp w0.heap.size w w' -> St D w'
 bel : ∀ D w, St D w -> Below w0.heap.size w0 w
 enter : ∀ D p q t R, D ++ ⟨true, p, q, t⟩ :: R = evT p0 q0 t0 -> TBx w0 p q t -> ∀ w, St D w -> Calls Tryz.prog E (#[.pointer (some ⟨p, q, none⟩)] ++ ec) w fun e w' => ∃ r, e = .returned (.bool r) /\ OnStp w0.heap.size w w' /\ (r = true -> St (D ++ [⟨true, p, q, t⟩]) w') /\ (r = false -> Fin w')
 leave : ∀ D p q t R w, D ++ ⟨false, p, q, t⟩ :: R = evT p0 q0 t0 -> St D w -> St (D ++ [⟨false, p, q, t⟩]) w
set_option maxRecDepth 100000 in
set_option maxHeartbeats 2000000 in
theorem walk_R {w0 : World} {p0 q0 : Nat} {t0 : TV} {St : List EV -> World -> Prop} {Fin : World -> Prop} {E : FuncId} {ec : Array Value} (h : RdW w0 p0 q0 t0 St Fin E ec) (w : World) (hw : St [] w) :
  Calls Tryz.prog 44 #[.pointer (some ⟨p0, q0, none⟩), fnV E ec] w fun e w' => e = .returned (.tuple #[]) /\ (St (evT p0 q0 t0) w' ∨ Fin w') := by
 have CW : Hid (Calls Tryz.prog 34 #[.pointer (some ⟨p0, q0, none⟩), fnV E ec, fnV 77 #[]] w fun e w' => e = .returned (.tuple #[]) /\ (St (evT p0 q0 t0) w' ∨ Fin w')) := walkAround_R (L := 77) (lc := #[]) ⟨h.ee, ent_leave1, h.tb, h.ta, h.sz, h.still, h.bel, h.enter, fun D p q t R hD _ w hs => (leave1_W p q w).mono fun e w' ⟨e1, e2⟩ => ⟨e1, by rw [e2]; exact OnStp.refl _ _, by rw [e2]; exact h.leave _ _ _ _ _ _ hD hs⟩⟩ w hw
 clear h hw
 go_enter Tryz.func44, Tryz.ntmps44
 go_wp2_with (go_at_call 34; refine CW.out.mono ?_; rintro e w1 ⟨rfl, h1⟩; have R : Hid (St (evT p0 q0 t0) w1 ∨ Fin w1) := h1; clear h1)
 refine bodyPost_end (results_none rfl _ _ _) rfl ?_
 exact ⟨rfl, R.out⟩
section
variable {P : Program} {ops : Array Oper} {Q : Exit -> Act -> World -> Prop} {md : Region.Mode} {S : Array Bool -> World -> Prop}
def wpAnyX (P : Program) (md : Region.Mode) (ops : Array Oper) (Q : Exit -> Act -> World -> Prop) (S : Array Bool -> World -> Prop) : Nat -> Array Bool -> Act -> World -> Prop
 | 0, listed, a, w => Region.ready md ops listed = [] /\ Q .normal a w
 | fuel + 1, listed, a, w =>
  (Region.ready md ops listed = [] -> Q .normal a w) /\
  ∀ i ∈ Region.ready md ops listed, wpOp P ops Q i (fun a' w' => S (listed.setIfInBounds i true) w' /\ wpAnyX P md ops Q S fuel (listed.setIfInBounds i true) a' w') a w
theorem wpAny_of_x : ∀ (fuel : Nat) (listed : Array Bool) (a : Act) (w : World), wpAnyX P md ops Q S fuel listed a w -> wpAny P md ops Q fuel listed a w
 | 0, _, _, _, h => h
 | fuel + 1, _, _, _, h => ⟨h.1, fun i hi => wpOp_mono (fun a' w' h' => wpAny_of_x fuel _ a' w' h'.2) (h.2 i hi)⟩
theorem wp_region_x {id : Nat} {a : Act} {w : World} (hm : P.follows .mixedOrders = true)
  (h : wpAnyX P .any ops Q S ops.size (Array.replicate ops.size false) a w.drew) : (Code.region id ops true).wp P Q a w :=
 wp_region_any hm (wpAny_of_x _ _ _ _ h)
theorem wpAnyX_first {i : Nat} {oi : Oper} {v : Value} {T : World -> Prop} {Cl : Array Bool -> Prop} (hi : ops[i]? = some oi) (hsel : ∀ (j : Nat) (o : Oper) cs b, ops[j]? = some o -> o.op ≠ .select cs b)
  (hQ : ∀ c a w, Q (.panic c) (a.put oi.dst v) w -> Q (.panic c) a w) (hCl : ∀ L j, Cl L -> j ∈ Region.ready md ops L -> Cl (L.setIfInBounds j true))
  (hST : ∀ L w, Cl L -> L.getD i true = false -> S L w -> T w) (hSi : ∀ L w, S (L.setIfInBounds i true) w ↔ S L w) :
  ∀ (fuel : Nat) (listed : Array Bool) (a : Act) (w : World),
   (∀ j oj, ops[j]? = some oj -> j ≠ i -> listed.getD j true = false -> (∀ e ∈ oj.after, Region.binds md e = true -> e.on ≠ i) -> oi.apart ops oj = true) ->
   i ∈ Region.ready md ops listed -> Cl listed -> YieldsIf P ops T oi v a -> S listed w ->
   wpAnyX P md ops Q S fuel (listed.setIfInBounds i true) (a.put oi.dst v) w -> wpAnyX P md ops Q S (fuel + 1) listed a w := by
 intro fuel
 induction fuel with
 | zero =>
  intro listed a w _ hr hc hy hS H
  refine ⟨fun h => (by rw [h] at hr; cases hr), fun j hj => ?_⟩
  by_cases hji : j = i
  ·subst hji; exact hy.wpOp hi (hST _ _ hc (mem_ready.1 hr).1 hS) ⟨(hSi _ _).2 hS, H⟩
  ·have := ready_mono hj hji
   rw [H.1] at this
   cases this
 | succ fuel ih =>
  intro listed a w hfree hr hc hy hS H
  refine ⟨fun h => (by rw [h] at hr; cases hr), fun j hj => ?_⟩
  by_cases hji : j = i
  ·subst hji; exact hy.wpOp hi (hST _ _ hc (mem_ready.1 hr).1 hS) ⟨(hSi _ _).2 hS, H⟩
  ·have h1 := H.2 j (ready_mono hj hji)
   obtain ⟨hjun, oj, hoj, hall⟩ := mem_ready.1 hj
   have hnot : ∀ e ∈ oj.after, Region.binds md e = true -> e.on ≠ i := fun e he hb heq => by
    have h1 := hall e he hb
    have h0 := (mem_ready.1 hr).1
    rw [heq] at h1
    rcases Nat.lt_or_ge i listed.size with h' | h'
    ·simp [h'] at h0 h1; rw [h0] at h1; cases h1
    ·simp [Array.getElem?_eq_none h'] at h1
   have h2 := wpOp_putIf hoj (hfree j oj hoj hji hjun hnot) (fun cs b => hsel i oi cs b hi) (fun cs b => hsel j oj cs b hoj) hQ hy h1
   have hfree' : ∀ k ok, ops[k]? = some ok -> k ≠ i -> (listed.setIfInBounds j true).getD k true = false ->
     (∀ e ∈ ok.after, Region.binds md e = true -> e.on ≠ i) -> oi.apart ops ok = true := fun k ok hk hki hun hno => by
    refine hfree k ok hk hki ?_ hno
    by_cases hjk : j = k
    ·subst hjk; exact hjun
    ·rw [getD_set_ne true hjk] at hun; exact hun
   refine wpOp_mono (fun a' w' h3 => ?_) h2
   have hs : S (listed.setIfInBounds j true) w' := by
    have := h3.2.1
    rw [Array.setIfInBounds_comm _ _ (Ne.symm hji)] at this
    exact (hSi _ _).1 this
   refine ⟨hs, ih (listed.setIfInBounds j true) a' w' hfree' (ready_mono hr (Ne.symm hji)) (hCl _ _ hc hj) h3.1 hs ?_⟩
   rw [Array.setIfInBounds_comm _ _ hji]
   exact h3.2.2
def SX (m : Nat) (S0 S1 : World -> Prop) (L : Array Bool) (w : World) : Prop := S0 w /\ (L.getD m false = false -> S1 w)
theorem SX.both {m : Nat} {S0 S1 : World -> Prop} {L : Array Bool} {w : World} (h0 : S0 w) (h1 : S1 w) : SX m S0 S1 L w := ⟨h0, fun _ => h1⟩
theorem SX.one {m : Nat} {S0 S1 : World -> Prop} {L : Array Bool} {w : World} (h0 : S0 w) (hm : L.getD m false = true) : SX m S0 S1 L w := ⟨h0, fun h => by rw [hm] at h; cases h⟩
def lastB (md : Region.Mode) (ops : Array Oper) (m : Nat) : Bool := (List.range m).all fun i => Region.waitsFor md ops m i
def ClX (m : Nat) (L : Array Bool) : Prop := L.getD m false = true -> ∀ i, i < m -> L.getD i false = true
theorem ClX.next {m : Nat} (hl : lastB md ops m = true) (L : Array Bool) (j : Nat) (h : ClX m L) (hj : j ∈ Region.ready md ops L) : ClX m (L.setIfInBounds j true) := by
 intro hm i hi
 by_cases hjm : j = m
 ·subst hjm
  obtain ⟨_, oj, hoj, hall⟩ := mem_ready.1 hj
  have h1 := List.all_eq_true.1 hl i (List.mem_range.2 hi)
  obtain ⟨o', ho', e, he, hb, hon⟩ := Region.waitsFor_spec h1
  obtain rfl : o' = oj := Option.some.inj (ho'.symm.trans hoj)
  have h2 := hall e he hb
  rw [hon] at h2
  exact getD_set_true h2
 ·rw [getD_set_ne false hjm] at hm
  exact getD_set_true (h hm i hi)
theorem wpAnyX_take {m i : Nat} {oi : Oper} {v : Value} {S0 S1 : World -> Prop} {fuel : Nat} {listed : Array Bool} {a : Act} {w : World} (hi' : ops.toList[i]? = some oi)
  (hs : Region.noSelect ops = true) (hl : lastB md ops m = true) (him : i < m) (hf : Region.free md ops listed i = true) (hr : (Region.ready md ops listed).contains i = true)
  (hQ : ∀ c a w, Q (.panic c) (a.put oi.dst v) w -> Q (.panic c) a w) (hc0 : listed.getD m false = false) (hy : YieldsIf P ops (fun w => S0 w /\ S1 w) oi v a) (hS : SX m S0 S1 listed w)
  (h : wpAnyX P md ops Q (SX m S0 S1) fuel (listed.setIfInBounds i true) (a.put oi.dst v) w) : wpAnyX P md ops Q (SX m S0 S1) (fuel + 1) listed a w :=
 have hi : ops[i]? = some oi := by rw [<- Array.getElem?_toList]; exact hi'
 wpAnyX_first (Cl := ClX m) hi (Region.noSelect_spec hs) hQ (ClX.next hl)
  (fun L w hc hun hS => ⟨hS.1, hS.2 (by
   cases e : L.getD m false with
   | false => rfl
   | true => have := hc e i him; rw [getD_both hun] at this; cases this)⟩)
  (fun L w => by
   have e : (L.setIfInBounds i true).getD m false = L.getD m false := getD_set_ne false (by omega)
   unfold SX
   rw [e]) fuel listed a w (Region.free_spec hi hf) (by simpa using hr) (fun e => by rw [hc0] at e; cases e) hy hS h
theorem wpAnyX_one {j : Nat} {o : Oper} {fuel : Nat} {listed : Array Bool} {a : Act} {w : World} (hr : Region.ready md ops listed = [j]) (ho' : ops.toList[j]? = some o)
  (h : ∀ K' : Act -> World -> Prop, Shut (∀ a' w', S (listed.setIfInBounds j true) w' -> wpAnyX P md ops Q S fuel (listed.setIfInBounds j true) a' w' -> K' a' w') -> if Region.wanted o (yielded ops a.tmps) = true then Oper.wp P o a w K' Q else K' (a.put o.dst undef) w) :
  wpAnyX P md ops Q S (fuel + 1) listed a w := by
 refine ⟨fun h0 => (by rw [hr] at h0; cases h0), fun i hi => ?_⟩
 rw [hr] at hi
 obtain rfl : i = j := by simpa using hi
 have ho : ops[i]? = some o := by rw [<- Array.getElem?_toList]; exact ho'
 exact wpOp_step ho (fun K' hK => h K' (fun a' w' hS hW => hK a' w' ⟨hS, hW⟩))
theorem step_callX {o : Oper} {a : Act} {w : World} {K : Act -> World -> Prop} {E : Prop} (hg : o.guard = none) (f : FuncId) (args : Array Value) (R : Ending -> World -> Prop)
  (hrun : (execOp a.eval o).run P w = .ok (.enter f args) w) (hC : Calls P f args w R) (hK : ∀ e w', R e w' -> ∃ v, e = .returned v /\ K (a.put o.dst v) w') :
  if Region.wanted o (yielded ops a.tmps) = true then Oper.wp P o a w K Q else E := by
 have hw : Region.wanted o (yielded ops a.tmps) = true := by simp [Region.wanted, hg]
 rw [if_pos hw]
 show o.upon P a K Q ((execOp a.eval o).run P w)
 rw [hrun, Oper.upon_enter]
 refine hC.mono fun e w' hR => ?_
 obtain ⟨v, rfl, hk⟩ := hK e w' hR
 exact hk
theorem wpAnyX_done {listed : Array Bool} {a : Act} {w : World} (hr : Region.ready md ops listed = []) (h : Q .normal a w) : wpAnyX P md ops Q S 0 listed a w := ⟨hr, h⟩
end
end Go.Proofs.YteciabdjkaackaaGreat
