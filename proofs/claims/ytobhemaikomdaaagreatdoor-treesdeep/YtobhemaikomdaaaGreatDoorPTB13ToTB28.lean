import Derived.Test.YtobhemaikomdaaaGreatDoorPTB7ToTB12
import Derived.Test.YtobhemaikomdaaaGreatDoorPTRvToTRw
import Derived.Test.YtobhemaikomdaaaGreatDoorPTD3ToTSm
import Derived.Test.YtobhemaikomdaaaGreatDoorPGDecToGE1
import Derived.Test.YtobhemaikomdaaaGreatDoorPGT0ToGT6
namespace Go.Proofs.YtobhemaikomdaaaGreatDoor
set_option linter.unusedVariables false
open Go.RowKit
structure DvU where
 u : Nat
 r : Nat
 A : AB
def wholeU (A : AB) : Bool := A.2.isEmpty && !A.1.isEmpty
def nextU (g : GV) (l : List Int) (A : AB) : Int × Int := match A.2 with
 | [] => (2, (g.ps.getD (l.getD 0 0).toNat .none).left)
 | f :: _ => (g.ps.getD f.p.toNat .none).right.getD f.ks.length (0, 0)
def wordU (L : List (Int × ByteArray)) (r : Nat) : TV := lfT (L.getD r (0, ByteArray.empty)).1 (L.getD r (0, ByteArray.empty)).2
def prodU2 (g : GV) (n : Int) : FrB := ⟨n, (g.ps.getD n.toNat .none).right.length, []⟩
def stepU (g : GV) (l : List Int) (L : List (Int × ByteArray)) (x : DvU) : (Int × Int) ⊕ DvU :=
 if (nextU g l x.A).1 = 1 then
  if x.r = L.length then .inl (82, (x.r : Int))
  else if (L.getD x.r (0, ByteArray.empty)).1 = (nextU g l x.A).2 then .inr ⟨x.u, x.r + 1, clU2 (adA x.A (wordU L x.r))⟩
  else .inl (82, (x.r : Int))
 else
  if x.u = l.length then .inl (11, (x.u : Int))
  else if (g.ps.getD (l.getD x.u 0).toNat .none).left = (nextU g l x.A).2 then .inr ⟨x.u + 1, x.r, clU2 (x.A.1, prodU2 g (l.getD x.u 0) :: x.A.2)⟩
  else .inl (81, (x.u : Int))
def OkF (g : GV) (f : FrB) : Prop := 0 <= f.p /\ f.p < g.ps.length /\ f.k = (g.ps.getD f.p.toNat .none).right.length
theorem cl_ok {g : GV} : ∀ (S : List FrB) (D : List TV), (∀ f ∈ S, OkF g f) -> (∀ f ∈ S.tail, f.ks.length < f.k) -> (∀ f ∈ S.head?, f.ks.length <= f.k) -> ∀ f ∈ (clU2 (D, S)).2, OkF g f /\ f.ks.length < f.k
 | [], D, _, _, _ => by
  rw [clU2_nil]
  intro f hf
  cases hf
 | f :: S, D, h1, h2, h3 => by
  rw [clU2_cons]
  by_cases hk : f.ks.length = f.k
  ·rw [if_pos hk]
   cases S with
   | nil => exact cl_ok [] _ (fun _ h => by cases h) (fun _ h => by cases h) (fun _ h => by cases h)
   | cons g' S =>
    refine cl_ok (⟨g'.p, g'.k, g'.ks ++ [ndT f]⟩ :: S) D (fun x hx => ?_) (fun x hx => ?_) (fun x hx => ?_)
    ·rcases List.mem_cons.1 hx with rfl | hx
     ·exact h1 g' (by simp)
     ·exact h1 x (by simp [hx])
    ·exact h2 x (by simp only [List.tail_cons] at hx ⊢; exact List.mem_cons_of_mem _ hx)
    ·simp only [List.head?_cons, Option.mem_def, Option.some.injEq] at hx
     subst hx
     have := h2 g' (by simp)
     simp only [List.length_append, List.length_singleton]
     omega
  ·rw [if_neg hk]
   intro x hx
   refine ⟨h1 x hx, ?_⟩
   rcases List.mem_cons.1 hx with rfl | hx
   ·have := h3 x (by simp)
    omega
   ·exact h2 x hx
termination_by S => S.length
theorem cl_lenB : ∀ (S : List FrB) (D : List TV), (dlA (clU2 (D, S))).length + (clU2 (D, S)).2.length <= (dlA (D, S)).length + S.length
 | [], D => by rw [clU2_nil]; exact Nat.le_refl _
 | f :: S, D => by
  rw [clU2_cons]
  by_cases hk : f.ks.length = f.k
  ·rw [if_pos hk]
   cases S with
   | nil =>
    have := cl_lenB [] (D ++ [ndT f])
    have e := dlA_ad D [] (ndT f)
    have e2 := dlA_cons D f []
    have q1 := congrArg List.length e
    have q2 := congrArg List.length e2
    simp only [List.length_append, List.length_cons, List.length_nil] at q1 q2 this ⊢
    show (dlA (clU2 (adA (D, []) (ndT f)))).length + (clU2 (adA (D, []) (ndT f))).2.length <= _
    simp only [adA] at q1 ⊢
    omega
   | cons g' S =>
    have := cl_lenB (⟨g'.p, g'.k, g'.ks ++ [ndT f]⟩ :: S) D
    have e := dlA_ad D (g' :: S) (ndT f)
    have e2 := dlA_cons D f (g' :: S)
    have q1 := congrArg List.length e
    have q2 := congrArg List.length e2
    simp only [List.length_append, List.length_cons, List.length_nil] at q1 q2 this ⊢
    simp only [adA] at q1 ⊢
    omega
  ·rw [if_neg hk]
   exact Nat.le_refl _
termination_by S => S.length
structure OkD2 (g : GV) (l : List Int) (L : List (Int × ByteArray)) (x : DvU) : Prop where
 ok : ∀ f ∈ x.A.2, OkF g f /\ f.ks.length < f.k
 ul : x.u <= l.length
 rl : x.r <= L.length
 ln : (dlA x.A).length + x.A.2.length <= x.u + x.r
theorem ok_start (g : GV) (l : List Int) (L : List (Int × ByteArray)) : OkD2 g l L ⟨0, 0, ([], [])⟩ := ⟨(fun f hf => by cases hf), Nat.zero_le _, Nat.zero_le _, by simp [dlA, ksL]⟩
theorem ok_step {g : GV} {l : List Int} {L : List (Int × ByteArray)} {x y : DvU} (hl : ∀ n ∈ l, 0 <= n /\ n < g.ps.length) (h : OkD2 g l L x) (hs : stepU g l L x = .inr y) : OkD2 g l L y /\ y.u + y.r = x.u + x.r + 1 := by
 obtain ⟨u, r, D, S⟩ := x
 unfold stepU at hs
 have h1 := h.ok
 have h2 := h.ul
 have h3 := h.rl
 have h4 := h.ln
 dsimp only at h1 h2 h3 h4 hs
 split at hs
 ·split at hs
  ·cases hs
  ·split at hs
   ·rename_i hr _
    simp only [Sum.inr.injEq] at hs
    subst hs
    refine ⟨⟨?_, h2, ?_, ?_⟩, by simp; omega⟩
    ·cases S with
     | nil => exact cl_ok [] _ (fun _ h => by cases h) (fun _ h => by cases h) (fun _ h => by cases h)
     | cons f S =>
      refine cl_ok (⟨f.p, f.k, f.ks ++ [wordU L r]⟩ :: S) D (fun x hx => ?_) (fun x hx => (h1 x (by simp only [List.tail_cons] at hx; exact List.mem_cons_of_mem _ hx)).2) (fun x hx => ?_)
      ·rcases List.mem_cons.1 hx with rfl | hx
       ·exact (h1 f (by simp)).1
       ·exact (h1 x (by simp [hx])).1
      ·simp only [List.head?_cons, Option.mem_def, Option.some.injEq] at hx
       subst hx
       have := (h1 f (by simp)).2
       simp only [List.length_append, List.length_singleton]
       omega
    ·show r + 1 <= L.length
     omega
    ·have e := dlA_ad D S (wordU L r)
     have e2 := adA_len D S (wordU L r)
     have q := congrArg List.length e
     rw [List.length_append, List.length_singleton] at q
     have := cl_lenB (adA (D, S) (wordU L r)).2 (adA (D, S) (wordU L r)).1
     show _ <= u + (r + 1)
     dsimp only
     have e3 : ((adA (D, S) (wordU L r)).1, (adA (D, S) (wordU L r)).2) = adA (D, S) (wordU L r) := rfl
     rw [e3] at this
     omega
   ·cases hs
 ·split at hs
  ·cases hs
  ·split at hs
   ·rename_i hu _
    simp only [Sum.inr.injEq] at hs
    subst hs
    have hul : u < l.length := by omega
    have hm : l.getD u 0 ∈ l := by
     simp [List.getD, hul]
    refine ⟨⟨?_, ?_, h3, ?_⟩, by simp; omega⟩
    ·refine cl_ok (prodU2 g (l.getD u 0) :: S) D (fun x hx => ?_) (fun x hx => (h1 x hx).2) (fun x hx => ?_)
     ·rcases List.mem_cons.1 hx with rfl | hx
      ·exact ⟨(hl _ hm).1, (hl _ hm).2, rfl⟩
      ·exact (h1 x hx).1
     ·simp only [List.head?_cons, Option.mem_def, Option.some.injEq] at hx
      subst hx
      exact Nat.zero_le _
    ·show u + 1 <= l.length
     omega
    ·have e2 := dlA_cons D (prodU2 g (l.getD u 0)) S
     have q := congrArg List.length e2
     rw [List.length_append] at q
     have q0 : (prodU2 g (l.getD u 0)).ks.length = 0 := rfl
     have := cl_lenB (prodU2 g (l.getD u 0) :: S) D
     rw [List.length_cons] at this
     show _ <= (u + 1) + r
     dsimp only
     omega
   ·cases hs
section
variable {w0 : World} {N db : Nat} {RF : Nat -> Option Obj} {w : World} {g : GV} {pa wa : Option Addr} {pc wc : Nat} {l : List Int} {L : List (Int × ByteArray)} {x : DvU}
theorem getD_nat {l : List Int} (hl : ∀ n ∈ l, 0 <= n /\ n < g.ps.length) {i : Nat} (hi : i < l.length) : l.getD i 0 = ((l.getD i 0).toNat : Int) /\ (l.getD i 0).toNat < g.ps.length := by
 have hm : l.getD i 0 ∈ l := by simp [List.getD, hi]
 obtain ⟨h1, h2⟩ := hl _ hm
 exact ⟨by omega, by omega⟩
theorem next_W (h : BdS w0 N db 9 (dvO g (.slice pa l.length pc) (.slice wa L.length wc) (x.u : Int) (x.r : Int)) RF x.A w) (ok : OkD2 g l L x) (hne : l ≠ []) (hl : ∀ n ∈ l, 0 <= n /\ n < g.ps.length) (hg : GAt 140737488355328 w g) (hli : InRow w pa l) (hb : l.length <= 400000000) (hB : L.length <= 400000000) : Calls Tryz.prog 94 #[.pointer (some ⟨db, 0, none⟩)] w fun e w' => e = .returned (.agg #[.int .i64 (nextU g l x.A).1, .int .i64 (nextU g l x.A).2]) /\ Below w.heap.size w w' := by
 obtain ⟨u, r, D, S⟩ := x
 have h1 := ok.ok
 have h2 := ok.ul
 have h3 := ok.rl
 have h4 := ok.ln
 dsimp only at h h1 h2 h3 h4
 cases S with
 | nil =>
  obtain ⟨e1, e2⟩ := getD_nat hl (List.length_pos_iff.2 hne)
  exact next_no h hg hli hne e1 e2
 | cons f S =>
  obtain ⟨⟨o1, o2, o3⟩, o4⟩ := h1 f (by simp)
  exact next_some h (by omega) hg (j := f.p.toNat) (by omega) (by omega) (by omega)
theorem step_W (h : BdS w0 N db 9 (dvO g (.slice pa l.length pc) (.slice wa L.length wc) (x.u : Int) (x.r : Int)) RF x.A w) (ok : OkD2 g l L x) (hne : l ≠ []) (hl : ∀ n ∈ l, 0 <= n /\ n < g.ps.length) (hg : GAt 140737488355328 w g) (hli : InRow w pa l) (hLi : TkRow w wa L) (hb : l.length <= 400000000) (hB : L.length <= 400000000) :
  (∀ e1 at_, stepU g l L x = .inl (e1, at_) -> Calls Tryz.prog 58 #[.pointer (some ⟨db, 0, none⟩)] w fun e w' => e = .returned (.tuple #[.int .i64 e1, .int .i64 at_]) /\ BdS w0 N db 9 (dvO g (.slice pa l.length pc) (.slice wa L.length wc) (x.u : Int) (x.r : Int)) RF x.A w') /\
  (∀ y, stepU g l L x = .inr y -> Calls Tryz.prog 58 #[.pointer (some ⟨db, 0, none⟩)] w fun e w' => e = .returned (.tuple #[.int .i64 0, .int .i64 0]) /\ BdS w0 N db 9 (dvO g (.slice pa l.length pc) (.slice wa L.length wc) (y.u : Int) (y.r : Int)) RF y.A w') := by
 have hN := next_W h ok hne hl hg hli hb hB
 have h2 := ok.ul
 have h3 := ok.rl
 have h4 := ok.ln
 unfold stepU
 generalize nextU g l x.A = kn at *
 obtain ⟨k, n⟩ := kn
 dsimp only at hN ⊢
 by_cases hk : k = 1
 ·subst hk
  rw [if_pos rfl]
  by_cases hr : x.r = L.length
  ·rw [if_pos hr]
   refine ⟨fun e1 at_ e => ?_, fun y e => by cases e⟩
   cases e
   exact step_term hN fun w' hb => word_short (h.later hb) hr
  ·rw [if_neg hr]
   have hrl : x.r < L.length := by omega
   by_cases hs : (L.getD x.r (0, ByteArray.empty)).1 = n
   ·rw [if_pos hs]
    refine ⟨(fun e1 at_ e => by cases e), fun y e => ?_⟩
    cases e
    exact step_term hN fun w' hb => word_ok (h.later hb) (hLi.later hb) hrl (by omega) hs (by omega)
   ·rw [if_neg hs]
    refine ⟨fun e1 at_ e => ?_, fun y e => by cases e⟩
    cases e
    exact step_term hN fun w' hb => word_wrong (h.later hb) (hLi.later hb) hrl (by omega) hs
 ·rw [if_neg hk]
  by_cases hu : x.u = l.length
  ·rw [if_pos hu]
   refine ⟨fun e1 at_ e => ?_, fun y e => by cases e⟩
   cases e
   exact step_non hk hN fun w' hb => prod_short (h.later hb) hu
  ·rw [if_neg hu]
   have hul : x.u < l.length := by omega
   obtain ⟨q1, q2⟩ := getD_nat hl hul
   by_cases hs : (g.ps.getD (l.getD x.u 0).toNat .none).left = n
   ·rw [if_pos hs]
    refine ⟨(fun e1 at_ e => by cases e), fun y e => ?_⟩
    cases e
    refine step_non hk hN fun w' hb => ?_
    have := prod_ok (h.later hb) (hg.later hb) (hli.later hb) hul (by omega) q1 q2 hs (by omega)
    rw [<- q1] at this
    exact this
   ·rw [if_neg hs]
    refine ⟨fun e1 at_ e => ?_, fun y e => by cases e⟩
    cases e
    exact step_non hk hN fun w' hb => prod_wrong (h.later hb) (hg.later hb) (hli.later hb) hul (by omega) q1 q2 hs
end
def derU (g : GV) (l : List Int) (L : List (Int × ByteArray)) : Nat -> DvU -> (Int × Int) ⊕ DvU
 | 0, x => .inr x
 | n + 1, x => if wholeU x.A = true then .inr x else match stepU g l L x with
  | .inl f => .inl f
  | .inr y => derU g l L n y
theorem der_ok {g : GV} {l : List Int} {L : List (Int × ByteArray)} (hl : ∀ n ∈ l, 0 <= n /\ n < g.ps.length) : ∀ (n : Nat) (x y : DvU), OkD2 g l L x -> l.length + L.length < n + (x.u + x.r) -> derU g l L n x = .inr y -> wholeU y.A = true /\ OkD2 g l L y
 | 0, x, y, h, hn, _ => by
  have h2 := h.ul
  have h3 := h.rl
  omega
 | n + 1, x, y, h, hn, hd => by
  rw [derU] at hd
  by_cases hw : wholeU x.A = true
  ·rw [if_pos hw] at hd
   cases hd
   exact ⟨hw, h⟩
  ·rw [if_neg hw] at hd
   cases hs : stepU g l L x with
   | inl f => rw [hs] at hd; cases hd
   | inr z =>
    rw [hs] at hd
    obtain ⟨k1, k2⟩ := ok_step hl h hs
    exact der_ok hl n z y k1 (by omega) hd
def deriveU (g : GV) (l : List Int) (L : List (Int × ByteArray)) : Option TV × Int × Int := match derU g l L (l.length + L.length + 1) ⟨0, 0, ([], [])⟩ with
 | .inl f => (none, f.1, f.2)
 | .inr y => if y.u < l.length then (none, 81, (y.u : Int)) else if y.r < L.length then (none, 12, (y.r : Int)) else (y.A.1.head?, 0, 0)
abbrev dvBox (g : GV) (pl wl : Value) : Obj := .cells #[.slice g.ta g.ts.length g.tc, .slice g.na g.ns.length g.nc, .int .i64 g.start, .slice g.pa g.ps.length g.pc, .slice g.la g.ls.length g.lc, pl, wl, .int .i64 0, .int .i64 0, .slice none 0 0, .slice none 0 0] 107
theorem bds_start {w0 w : World} {N db : Nat} {g : GV} {pl wl : Value} {RF : Nat -> Option Obj} (hB : Below N w0 w) (hN : N <= db) (hb : w.heap[db]? = some (dvBox g pl wl)) (hR : ∀ j o, RF j = some o -> w.heap[j]? = some o /\ j ≠ db) : BdS w0 N db 9 (dvO g pl wl 0 0) RF ([], []) w := by
 refine ⟨.slice none 0 0, .slice none 0 0, ([], []), ⟨⟨rfl, fun i hi => absurd hi (by simp)⟩, trivial⟩, ?_⟩
 refine ⟨hB, Nat.le_trans hN (Nat.le_of_lt (lt_of_block hb)), ⟨_, _, hb, by decide, by decide, rfl, rfl⟩, hN, fun o h1 h2 => ?_, fun j o hj => ⟨(hR j o hj).1, (hR j o hj).2, (fun e => by cases e), (fun e => by cases e)⟩, RO.nil w, RO.nil w, (fun j e => by cases e), (fun j e => by cases e), (fun t ht => by cases ht), (fun a ha => by cases ha), fun a => by simp [dlA, ksL, inR]⟩
 rw [cellq_any hb]
 unfold dvO
 rcases o with _ | _ | _ | _ | _ | _ | _ | _ | _ | _ | _ | o
 all_goals first | rfl | (exfalso; omega) | simp
theorem BdS.bel {w0 : World} {N bb bo : Nat} {OC : Nat -> Option Value} {RF : Nat -> Option Obj} {A : AB} {w : World} (h : BdS w0 N bb bo OC RF A w) : Below N w0 w := by
 obtain ⟨a, b, c, d, e⟩ := h
 exact e.bel
theorem BdS.rf {w0 : World} {N bb bo : Nat} {OC : Nat -> Option Value} {RF : Nat -> Option Obj} {A : AB} {w : World} (h : BdS w0 N bb bo OC RF A w) {j : Nat} {o : Obj} (hj : RF j = some o) : w.heap[j]? = some o := by
 obtain ⟨a, b, c, d, e⟩ := h
 exact (e.rf j o hj).1
theorem whole_W {w0 : World} {N bb bo : Nat} {OC : Nat -> Option Value} {RF : Nat -> Option Obj} {A : AB} {w : World} (h : BdS w0 N bb bo OC RF A w) : Calls Tryz.prog 37 #[.pointer (some ⟨bb, bo, none⟩)] w fun e w' => e = .returned (.bool (wholeU A)) /\ w' = w := by
 obtain ⟨vo, vd, ⟨E, T⟩, ⟨h1, h2⟩, hM⟩ := h
 obtain ⟨D, S⟩ := A
 have := whole_B hM
 have e : decide (nlA (E, T) = [] /\ dlA (E, T) ≠ []) = wholeU (D, S) := by
  cases S with
  | nil =>
   cases T with
   | cons g T => exact h2.elim
   | nil =>
    have hl := h1.1
    dsimp only at hl
    have e1 : nlA (E, []) = [] := rfl
    have e2 : dlA (E, []) = E := by simp [dlA, ksL]
    rw [e1, e2]
    cases E with
    | nil => cases D with
     | nil => rfl
     | cons t D => simp at hl
    | cons t E => cases D with
     | nil => simp at hl
     | cons t D => simp [wholeU]
  | cons f S =>
   cases T with
   | nil => exact h2.elim
   | cons g T => rw [nlA_cons]; simp [wholeU]
 rw [e] at this
 exact this
def dvE (N : Nat) (g : GV) (l : List Int) (L : List (Int × ByteArray)) (e : Ending) (w' : World) : Prop := match deriveU g l L with
 | (none, e1, at_) => e = .returned (.tuple #[TV.none.val, .int .i64 e1, .int .i64 at_])
 | (some t, _, _) => ∃ t', samV t' t /\ OwT N w' t' /\ e = .returned (.tuple #[t'.val, .int .i64 0, .int .i64 0])
theorem step_ne {g : GV} {l : List Int} {L : List (Int × ByteArray)} {x : DvU} {e1 at_ : Int} (h : stepU g l L x = .inl (e1, at_)) : ¬ e1 = 0 := by
 unfold stepU at h
 split at h
 ·split at h
  ·cases h; decide
  ·split at h
   ·cases h
   ·cases h; decide
 ·split at h
  ·cases h; decide
  ·split at h
   ·cases h
   ·cases h; decide
set_option linter.unusedSimpArgs false in
set_option maxRecDepth 100000 in
set_option maxHeartbeats 4000000 in
theorem derive_W {w : World} {g : GV} {pa wa : Option Addr} {pc wc : Nat} {l : List Int} {L : List (Int × ByteArray)} (hne : l ≠ []) (hl : ∀ n ∈ l, 0 <= n /\ n < g.ps.length) (hg : GAt 140737488355328 w g) (hli : InRow w pa l) (hLi : TkRow w wa L) (hb : l.length <= 400000000) (hB : L.length <= 400000000) : Calls Tryz.prog 24 #[g.val, .slice pa l.length pc, .slice wa L.length wc] w fun e w' => Below w.heap.size w w' /\ dvE w.heap.size g l L e w' := by
 obtain ⟨W1, hW1⟩ : ∃ W1 : World, W1 = ((w.alloc (gBox g)).alloc zTrB).alloc (dvBox g (.slice pa l.length pc) (.slice wa L.length wc)) := ⟨_, rfl⟩
 have HW1 : Hid (W1 = ((w.alloc (gBox g)).alloc zTrB).alloc (dvBox g (.slice pa l.length pc) (.slice wa L.length wc))) := hW1
 clear hW1
 have HBW : Hid (∀ w', Below (w.heap.size + 1 + 1) W1 w' -> Below w.heap.size w w' /\ w'.heap[w.heap.size + 1]? = some zTrB) := fun w' hb => by
  have b1 := below_alloc w (gBox g)
  obtain ⟨h1, h2, h3⟩ := two_allocT (w.alloc (gBox g)) zTrB (dvBox g (.slice pa l.length pc) (.slice wa L.length wc))
  have hz : (w.alloc (gBox g)).heap.size = w.heap.size + 1 := by simp
  rw [hz] at h2 h3
  have b2 := b1.trans (h1.mono b1.size)
  rw [<- HW1.out] at h2 b2
  exact ⟨b2.trans (hb.mono (by omega)), (hb.block _ (by omega)).trans h2⟩
 have HST : Hid (∀ (w' : World) (db : Nat) (RF : Nat -> Option Obj) (x : DvU), Below w.heap.size w w' -> BdS W1 (w.heap.size + 1 + 1) db 9 (dvO g (.slice pa l.length pc) (.slice wa L.length wc) (x.u : Int) (x.r : Int)) RF x.A w' -> OkD2 g l L x -> (∀ e1 at_, stepU g l L x = .inl (e1, at_) -> Calls Tryz.prog 58 #[.pointer (some ⟨db, 0, none⟩)] w' fun e w'' => e = .returned (.tuple #[.int .i64 e1, .int .i64 at_]) /\ BdS W1 (w.heap.size + 1 + 1) db 9 (dvO g (.slice pa l.length pc) (.slice wa L.length wc) (x.u : Int) (x.r : Int)) RF x.A w'') /\
  (∀ y, stepU g l L x = .inr y -> Calls Tryz.prog 58 #[.pointer (some ⟨db, 0, none⟩)] w' fun e w'' => e = .returned (.tuple #[.int .i64 0, .int .i64 0]) /\ BdS W1 (w.heap.size + 1 + 1) db 9 (dvO g (.slice pa l.length pc) (.slice wa L.length wc) (y.u : Int) (y.r : Int)) RF y.A w'')) := fun w' db RF x hbw h ok => step_W h ok hne hl (hg.later hbw) (hli.later hbw) (hLi.later hbw) hb hB
 clear hg hli hLi
 have HDO : Hid (∀ n x y, OkD2 g l L x -> l.length + L.length < n + (x.u + x.r) -> derU g l L n x = .inr y -> wholeU y.A = true /\ OkD2 g l L y) := der_ok hl
 have HOS : Hid (∀ x y, OkD2 g l L x -> stepU g l L x = .inr y -> OkD2 g l L y /\ y.u + y.r = x.u + x.r + 1) := fun x y => ok_step hl
 have S0 : Hid (BdS W1 (w.heap.size + 1 + 1) (w.heap.size + 1 + 1) 9 (dvO g (.slice pa l.length pc) (.slice wa L.length wc) 0 0) (fun _ => none) ([], []) W1) := by
  obtain ⟨h1, h2, h3⟩ := two_allocT (w.alloc (gBox g)) zTrB (dvBox g (.slice pa l.length pc) (.slice wa L.length wc))
  have hz : (w.alloc (gBox g)).heap.size = w.heap.size + 1 := by simp
  rw [hz] at h2 h3
  rw [<- HW1.out] at h3
  exact bds_start (Below.refl _ _) (Nat.le_refl _) h3 fun j o hj => by cases hj
 clear hl
 go_enter Tryz.func24, Tryz.ntmps24
 go_wp2
 refine wp_world (fun w' => w' = W1) HW1.out.symm fun w1 h1 => ?_
 obtain rfl := h1
 have H1 : Hid (BdS w1 (w.heap.size + 1 + 1) (w.heap.size + 1 + 1) 9 (dvO g (.slice pa l.length pc) (.slice wa L.length wc) 0 0) (fun _ => none) ([], []) w1) := S0.out
 clear S0 HW1
 go_loopg [] (l.length + L.length + 2) (fun gk wr => ∃ n x, BdS w1 (w.heap.size + 1 + 1) (w.heap.size + 1 + 1) 9 (dvO g (.slice pa l.length pc) (.slice wa L.length wc) (x.u : Int) (x.r : Int)) (fun _ => none) x.A wr /\ OkD2 g l L x /\ derU g l L n x = derU g l L (l.length + L.length + 1) ⟨0, 0, ([], [])⟩ /\ l.length + L.length < n + (x.u + x.r) /\ n < gk)
 case atStart => exact ⟨l.length + L.length + 1, ⟨0, 0, ([], [])⟩, H1.out, ok_start g l L, rfl, by dsimp only; omega, by omega⟩
 case round =>
  clear H1
  obtain ⟨n, x, hBd, hO, hd, hn, hgk⟩ := hrel
  have HB9 : Hid (BdS w1 (w.heap.size + 1 + 1) (w.heap.size + 1 + 1) 9 (dvO g (.slice pa l.length pc) (.slice wa L.length wc) (x.u : Int) (x.r : Int)) (fun _ => none) x.A wr) := hBd
  have CW : Hid (Calls Tryz.prog 37 #[.pointer (some ⟨w.heap.size + 1 + 1, 9, none⟩)] wr fun e w' => e = .returned (.bool (wholeU x.A)) /\ w' = wr) := whole_W hBd
  cases n with
  | zero =>
   have h2 := hO.ul
   have h3 := hO.rl
   omega
  | succ n =>
   rw [derU] at hd
   have HGN : Hid (n + 1 < gk) := hgk
   have HO : Hid (OkD2 g l L x /\ l.length + L.length < n + 1 + (x.u + x.r)) := ⟨hO, hn⟩
   cases hw : wholeU x.A with
   | true =>
    rw [if_pos hw] at hd
    rw [hw] at CW
    have HUL : deriveU g l L = if x.u < l.length then (none, 81, (x.u : Int)) else if x.r < L.length then (none, 12, (x.r : Int)) else (x.A.1.head?, 0, 0) := by
     unfold deriveU
     rw [<- hd]
    have HWH : Hid (x.A.2 = [] /\ x.A.1 ≠ []) := by
     show _ /\ _
     unfold wholeU at hw
     simp only [Bool.and_eq_true, Bool.not_eq_true', List.isEmpty_iff, List.isEmpty_eq_false_iff] at hw
     exact hw
    have c7 : wr.cell? ⟨w.heap.size + 1 + 1, 7, none⟩ = some (.int .i64 (x.u : Int)) := HB9.out.oc (o := 7) (by omega) (by omega)
    have c8 : wr.cell? ⟨w.heap.size + 1 + 1, 8, none⟩ = some (.int .i64 (x.r : Int)) := HB9.out.oc (o := 8) (by omega) (by omega)
    clear hd hw hO hn hBd hgk
    by_cases hu : x.u < l.length
    ·rw [if_pos hu] at HUL
     have HU : Hid (deriveU g l L = (none, 81, (x.u : Int))) := HUL
     clear HUL
     go_upto_region 7 with (go_at_call 37; refine CW.out.mono ?_; rintro e w2 ⟨rfl, q⟩; obtain rfl := q.symm)
     refine wp_world (fun w' => Below w.heap.size w w' /\ w'.heap[w.heap.size + 1]? = some zTrB /\ w'.cell? ⟨w.heap.size + 1 + 1, 7, none⟩ = some (.int .i64 (x.u : Int))) ⟨(HBW.out _ HB9.out.bel).1, (HBW.out _ HB9.out.bel).2, c7⟩ fun w4 h4 => ?_
     have H4 : Hid (Below w.heap.size w w4 /\ w4.heap[w.heap.size + 1]? = some zTrB) := ⟨h4.1, h4.2.1⟩
     clear c7 c8 CW HB9 HST HDO HOS HO
     obtain ⟨wd, hwd⟩ : ∃ wd : World, wd = w4.drew := ⟨_, rfl⟩
     have c7 := h4.2.2
     have H5 : Hid (Below w.heap.size w (w4.setCells (w.heap.size + 1) 0 [.int .i64 0, .int .i64 0, .string ⟨#[]⟩, .slice none 0 0]).drew /\ (w4.setCells (w.heap.size + 1) 0 [.int .i64 0, .int .i64 0, .string ⟨#[]⟩, .slice none 0 0]).drew.heap[w.heap.size + 1]? = some zTrB) := ⟨(setCs_bel (Nat.le_add_right _ _) _ _ _ H4.out.1).drew, setCs_fourB H4.out.2⟩
     have f0 : ∀ i, w4.frozen? ⟨w.heap.size + 1, i, none⟩ = false := fun i => by simp [World.frozen?, H4.out.2]
     have f00 := f0 0
     have f01 := f0 1
     have f02 := f0 2
     have f03 := f0 3
     have z0 : w4.cell? ⟨w.heap.size + 1, 0, none⟩ = some (.int .i64 0) := (cellq_any H4.out.2).trans rfl
     have z1 : w4.cell? ⟨w.heap.size + 1, 1, none⟩ = some (.int .i64 0) := (cellq_any H4.out.2).trans rfl
     have z2 : w4.cell? ⟨w.heap.size + 1, 2, none⟩ = some (.string ⟨#[]⟩) := (cellq_any H4.out.2).trans rfl
     have z3 : w4.cell? ⟨w.heap.size + 1, 3, none⟩ = some (.slice none 0 0) := (cellq_any H4.out.2).trans rfl
     clear f0 h4 hwd
     generalize (x.u : Int) = xu at *
     generalize w.heap.size + 1 + 1 = db at *
     go_region
     change Exit.then _ _ _ _ (w4.setCells (w.heap.size + 1) 0 [.int .i64 0, .int .i64 0, .string ⟨#[]⟩, .slice none 0 0]).drew
     generalize (w4.setCells (w.heap.size + 1) 0 [.int .i64 0, .int .i64 0, .string ⟨#[]⟩, .slice none 0 0]).drew = w5 at *
     clear H4 f00 f01 f02 f03 z0 z1 z2 z3 c7
     have x0 : w5.cell? ⟨w.heap.size + 1, 0, none⟩ = some (.int .i64 0) := (cellq_any H5.out.2).trans rfl
     have x1 : w5.cell? ⟨w.heap.size + 1, 1, none⟩ = some (.int .i64 0) := (cellq_any H5.out.2).trans rfl
     have x2 : w5.cell? ⟨w.heap.size + 1, 2, none⟩ = some (.string ⟨#[]⟩) := (cellq_any H5.out.2).trans rfl
     have x3 : w5.cell? ⟨w.heap.size + 1, 3, none⟩ = some (.slice none 0 0) := (cellq_any H5.out.2).trans rfl
     go_wp2
     refine bodyPost_ret (v := .tuple #[.agg #[.int .i64 0, .int .i64 0, .string ⟨#[]⟩, .slice none 0 0], .int .i64 81, .int .i64 xu]) (by simp [results, Tryz.results24, go_sem, x0, x1, x2, x3]) rfl ?_
     refine ⟨H5.out.1, ?_⟩
     unfold dvE
     rw [HU.out]
     rfl
    ·rw [if_neg hu] at HUL
     by_cases hr : x.r < L.length
     ·rw [if_pos hr] at HUL
      have HU : Hid (deriveU g l L = (none, 12, (x.r : Int))) := HUL
      clear HUL
      go_upto_region 9 with (go_at_call 37; refine CW.out.mono ?_; rintro e w2 ⟨rfl, q⟩; obtain rfl := q.symm)
      refine wp_world (fun w' => Below w.heap.size w w' /\ w'.heap[w.heap.size + 1]? = some zTrB /\ w'.cell? ⟨w.heap.size + 1 + 1, 8, none⟩ = some (.int .i64 (x.r : Int))) ⟨(HBW.out _ HB9.out.bel).1, (HBW.out _ HB9.out.bel).2, c8⟩ fun w4 h4 => ?_
      have H4 : Hid (Below w.heap.size w w4 /\ w4.heap[w.heap.size + 1]? = some zTrB) := ⟨h4.1, h4.2.1⟩
      clear c7 c8 CW HB9 HST HDO HOS HO
      obtain ⟨wd, hwd⟩ : ∃ wd : World, wd = w4.drew := ⟨_, rfl⟩
      have c7 := h4.2.2
      have H5 : Hid (Below w.heap.size w (w4.setCells (w.heap.size + 1) 0 [.int .i64 0, .int .i64 0, .string ⟨#[]⟩, .slice none 0 0]).drew /\ (w4.setCells (w.heap.size + 1) 0 [.int .i64 0, .int .i64 0, .string ⟨#[]⟩, .slice none 0 0]).drew.heap[w.heap.size + 1]? = some zTrB) := ⟨(setCs_bel (Nat.le_add_right _ _) _ _ _ H4.out.1).drew, setCs_fourB H4.out.2⟩
      have f0 : ∀ i, w4.frozen? ⟨w.heap.size + 1, i, none⟩ = false := fun i => by simp [World.frozen?, H4.out.2]
      have f00 := f0 0
      have f01 := f0 1
      have f02 := f0 2
      have f03 := f0 3
      have z0 : w4.cell? ⟨w.heap.size + 1, 0, none⟩ = some (.int .i64 0) := (cellq_any H4.out.2).trans rfl
      have z1 : w4.cell? ⟨w.heap.size + 1, 1, none⟩ = some (.int .i64 0) := (cellq_any H4.out.2).trans rfl
      have z2 : w4.cell? ⟨w.heap.size + 1, 2, none⟩ = some (.string ⟨#[]⟩) := (cellq_any H4.out.2).trans rfl
      have z3 : w4.cell? ⟨w.heap.size + 1, 3, none⟩ = some (.slice none 0 0) := (cellq_any H4.out.2).trans rfl
      clear f0 h4 hwd
      generalize (x.r : Int) = xu at *
      generalize w.heap.size + 1 + 1 = db at *
      go_region
      change Exit.then _ _ _ _ (w4.setCells (w.heap.size + 1) 0 [.int .i64 0, .int .i64 0, .string ⟨#[]⟩, .slice none 0 0]).drew
      generalize (w4.setCells (w.heap.size + 1) 0 [.int .i64 0, .int .i64 0, .string ⟨#[]⟩, .slice none 0 0]).drew = w5 at *
      clear H4 f00 f01 f02 f03 z0 z1 z2 z3 c7
      have x0 : w5.cell? ⟨w.heap.size + 1, 0, none⟩ = some (.int .i64 0) := (cellq_any H5.out.2).trans rfl
      have x1 : w5.cell? ⟨w.heap.size + 1, 1, none⟩ = some (.int .i64 0) := (cellq_any H5.out.2).trans rfl
      have x2 : w5.cell? ⟨w.heap.size + 1, 2, none⟩ = some (.string ⟨#[]⟩) := (cellq_any H5.out.2).trans rfl
      have x3 : w5.cell? ⟨w.heap.size + 1, 3, none⟩ = some (.slice none 0 0) := (cellq_any H5.out.2).trans rfl
      go_wp2
      refine bodyPost_ret (v := .tuple #[.agg #[.int .i64 0, .int .i64 0, .string ⟨#[]⟩, .slice none 0 0], .int .i64 12, .int .i64 xu]) (by simp [results, Tryz.results24, go_sem, x0, x1, x2, x3]) rfl ?_
      refine ⟨H5.out.1, ?_⟩
      unfold dvE
      rw [HU.out]
      rfl
     ·rw [if_neg hr] at HUL
      have HU : Hid (deriveU g l L = (x.A.1.head?, 0, 0)) := HUL
      clear HUL
      have CT : Hid (Calls Tryz.prog 41 #[.pointer (some ⟨w.heap.size + 1 + 1, 9, none⟩)] wr fun e w' => ∃ t t', x.A.1.head? = some t' /\ samV t t' /\ e = .returned t.val /\ OwT (w.heap.size + 1 + 1) w' t /\ BdS w1 (w.heap.size + 1 + 1) (w.heap.size + 1 + 1) 9 (dvO g (.slice pa l.length pc) (.slice wa L.length wc) (x.u : Int) (x.r : Int)) (fun _ => none) x.A w') := tree_B HB9.out HWH.out.2 HWH.out.1
      clear HB9 HST HDO HOS HO HWH
      go_upto_region 10 with (go_at_call 37; refine CW.out.mono ?_; rintro e w2 ⟨rfl, q⟩; obtain rfl := q.symm)
      go_wp2_with (go_at_call 41; refine CT.out.mono ?_; rintro e w3 ⟨t, t', hh, hs, rfl, hOw, hB3⟩; have H3 : Hid (Below w.heap.size w w3 /\ w3.heap[w.heap.size + 1]? = some zTrB /\ OwT (w.heap.size + 1 + 1) w3 t /\ samV t t' /\ x.A.1.head? = some t') := ⟨(HBW.out _ hB3.bel).1, (HBW.out _ hB3.bel).2, hOw, hs, hh⟩; clear hh hs hOw hB3 CT c7 c8; have f0 : ∀ i, w3.frozen? ⟨w.heap.size + 1, i, none⟩ = false := (fun i => by simp [World.frozen?, H3.out.2.1]); have f00 := f0 0; have f01 := f0 1; have f02 := f0 2; have f03 := f0 3; clear f0; have z0 : w3.cell? ⟨w.heap.size + 1, 0, none⟩ = some (.int .i64 0) := (cellq_any H3.out.2.1).trans rfl; have z1 : w3.cell? ⟨w.heap.size + 1, 1, none⟩ = some (.int .i64 0) := (cellq_any H3.out.2.1).trans rfl; have z2 : w3.cell? ⟨w.heap.size + 1, 2, none⟩ = some (.string ⟨#[]⟩) := (cellq_any H3.out.2.1).trans rfl; have z3 : w3.cell? ⟨w.heap.size + 1, 3, none⟩ = some (.slice none 0 0) := (cellq_any H3.out.2.1).trans rfl)
      have H5 : Hid (Below w.heap.size w (set4 w3 (w.heap.size + 1) 0 t) /\ TBx (set4 w3 (w.heap.size + 1) 0 t) (w.heap.size + 1) 0 t /\ OwT w.heap.size (set4 w3 (w.heap.size + 1) 0 t) t) := by
       obtain ⟨a1, a2, a3, -, -⟩ := H3.out
       refine ⟨set4_below a1 0 t (by omega), set4_tbx t z0 z1 z2 z3 (lt_of_block a2), ?_⟩
       have := a3.kept (w' := set4 w3 (w.heap.size + 1) 0 t) (fun a ha => set4_other _ _ _ _ _ (by have := (a3.ty a ha).1; omega)) (by rw [set4_size]; exact Nat.le_refl _)
       exact ⟨this.ta, this.cn, fun a ha => ⟨by have := (this.ty a ha).1; omega, (this.ty a ha).2⟩⟩
      change bodyPost _ _ _ _ _ (set4 w3 (w.heap.size + 1) 0 t)
      generalize set4 w3 (w.heap.size + 1) 0 t = w5 at *
      have x0 := H5.out.2.1.c0
      have x1 := H5.out.2.1.c1
      have x2 := H5.out.2.1.c2
      have x3 := H5.out.2.1.c3
      simp only [Nat.zero_add] at x1 x2 x3
      refine bodyPost_ret (v := .tuple #[t.val, .int .i64 0, .int .i64 0]) (by simp [results, Tryz.results24, go_sem, x0, x1, x2, x3]) rfl ?_
      refine ⟨H5.out.1, ?_⟩
      unfold dvE
      rw [HU.out, H3.out.2.2.2.2]
      exact ⟨t, H3.out.2.2.2.1, H5.out.2.2, rfl⟩
   | false =>
    rw [if_neg (by rw [hw]; decide)] at hd
    rw [hw] at CW
    have HS2 := HST.out wr _ _ x (HBW.out _ hBd.bel).1 hBd hO
    clear hO hn hBd hgk
    cases hs : stepU g l L x with
    | inl f =>
     obtain ⟨e1, at_⟩ := f
     rw [hs] at hd
     have CS : Hid (Calls Tryz.prog 58 #[.pointer (some ⟨w.heap.size + 1 + 1, 0, none⟩)] wr fun e w'' => e = .returned (.tuple #[.int .i64 e1, .int .i64 at_]) /\ BdS w1 (w.heap.size + 1 + 1) (w.heap.size + 1 + 1) 9 (dvO g (.slice pa l.length pc) (.slice wa L.length wc) (x.u : Int) (x.r : Int)) (fun _ => none) x.A w'') := HS2.1 e1 at_ hs
     have HU : Hid (deriveU g l L = (none, e1, at_)) := by show _ = _; unfold deriveU; rw [<- hd]
     have hnz : ¬ e1 = 0 := step_ne hs
     clear hd hw HS2 hs HB9 HO
     go_upto_region 5 with (first | (go_at_call 37; refine CW.out.mono ?_; rintro e w2 ⟨rfl, rfl⟩) | (go_at_call 58; refine CS.out.mono ?_; rintro e w3 ⟨rfl, b3⟩; have H3 : Hid (BdS w1 (w.heap.size + 1 + 1) (w.heap.size + 1 + 1) 9 (dvO g (.slice pa l.length pc) (.slice wa L.length wc) (x.u : Int) (x.r : Int)) (fun _ => none) x.A w3) := b3; clear b3))
     refine wp_world (fun w' => Below w.heap.size w w' /\ w'.heap[w.heap.size + 1]? = some zTrB) (HBW.out _ H3.out.bel) fun w4 h4 => ?_
     have H4 : Hid (Below w.heap.size w w4 /\ w4.heap[w.heap.size + 1]? = some zTrB) := h4
     clear h4 H3 CW CS HST HDO HOS
     have H5 : Hid (Below w.heap.size w (w4.setCells (w.heap.size + 1) 0 [.int .i64 0, .int .i64 0, .string ⟨#[]⟩, .slice none 0 0]) /\ (w4.setCells (w.heap.size + 1) 0 [.int .i64 0, .int .i64 0, .string ⟨#[]⟩, .slice none 0 0]).heap[w.heap.size + 1]? = some zTrB) := ⟨setCs_bel (Nat.le_add_right _ _) _ _ _ H4.out.1, setCs_fourB H4.out.2⟩
     have f0 : ∀ i, w4.frozen? ⟨w.heap.size + 1, i, none⟩ = false := fun i => by simp [World.frozen?, H4.out.2]
     have f00 := f0 0
     have f01 := f0 1
     have f02 := f0 2
     have f03 := f0 3
     have z0 : w4.cell? ⟨w.heap.size + 1, 0, none⟩ = some (.int .i64 0) := (cellq_any H4.out.2).trans rfl
     have z1 : w4.cell? ⟨w.heap.size + 1, 1, none⟩ = some (.int .i64 0) := (cellq_any H4.out.2).trans rfl
     have z2 : w4.cell? ⟨w.heap.size + 1, 2, none⟩ = some (.string ⟨#[]⟩) := (cellq_any H4.out.2).trans rfl
     have z3 : w4.cell? ⟨w.heap.size + 1, 3, none⟩ = some (.slice none 0 0) := (cellq_any H4.out.2).trans rfl
     clear H4 f0
     go_wp2
     change bodyPost _ _ _ _ _ (w4.setCells (w.heap.size + 1) 0 [.int .i64 0, .int .i64 0, .string ⟨#[]⟩, .slice none 0 0])
     generalize w4.setCells (w.heap.size + 1) 0 [.int .i64 0, .int .i64 0, .string ⟨#[]⟩, .slice none 0 0] = w5 at *
     have x0 : w5.cell? ⟨w.heap.size + 1, 0, none⟩ = some (.int .i64 0) := (cellq_any H5.out.2).trans rfl
     have x1 : w5.cell? ⟨w.heap.size + 1, 1, none⟩ = some (.int .i64 0) := (cellq_any H5.out.2).trans rfl
     have x2 : w5.cell? ⟨w.heap.size + 1, 2, none⟩ = some (.string ⟨#[]⟩) := (cellq_any H5.out.2).trans rfl
     have x3 : w5.cell? ⟨w.heap.size + 1, 3, none⟩ = some (.slice none 0 0) := (cellq_any H5.out.2).trans rfl
     refine bodyPost_ret (v := .tuple #[.agg #[.int .i64 0, .int .i64 0, .string ⟨#[]⟩, .slice none 0 0], .int .i64 e1, .int .i64 at_]) (by simp [results, Tryz.results24, go_sem, x0, x1, x2, x3]) rfl ?_
     refine ⟨H5.out.1, ?_⟩
     unfold dvE
     rw [HU.out]
     rfl
    | inr y =>
     rw [hs] at hd
     have CS : Hid (Calls Tryz.prog 58 #[.pointer (some ⟨w.heap.size + 1 + 1, 0, none⟩)] wr fun e w'' => e = .returned (.tuple #[.int .i64 0, .int .i64 0]) /\ BdS w1 (w.heap.size + 1 + 1) (w.heap.size + 1 + 1) 9 (dvO g (.slice pa l.length pc) (.slice wa L.length wc) (y.u : Int) (y.r : Int)) (fun _ => none) y.A w'') := HS2.2 y hs
     obtain ⟨k1, k2⟩ := HOS.out x y HO.out.1 hs
     have HV : Hid (derU g l L n y = derU g l L (l.length + L.length + 1) ⟨0, 0, ([], [])⟩ /\ OkD2 g l L y /\ l.length + L.length < n + (y.u + y.r) /\ n < gk - 1) := ⟨hd, k1, by have := HO.out.2; omega, by have := HGN.out; omega⟩
     clear hd hw HS2 hs k1 k2 HB9 HO
     go_wp2_with (first | (go_at_call 37; refine CW.out.mono ?_; rintro e w2 ⟨rfl, rfl⟩) | (go_at_call 58; refine CS.out.mono ?_; rintro e w3 ⟨rfl, b3⟩; have H3 : Hid (BdS w1 (w.heap.size + 1 + 1) (w.heap.size + 1 + 1) 9 (dvO g (.slice pa l.length pc) (.slice wa L.length wc) (y.u : Int) (y.r : Int)) (fun _ => none) y.A w3) := b3; clear b3))
     go_roundg (gk - 1)
     case measure => have := HGN.out; omega
     case rel => exact ⟨n, y, H3.out, HV.out.2.1, HV.out.1, HV.out.2.2⟩
def fbU (n : Nat) : Nat -> List Int -> Option Nat
 | _, [] => none
 | i, x :: l => if 0 <= x /\ x < n then fbU n (i + 1) l else some i
def cpU (er : Int) (n : Nat) (l : List Int) : Int × Int := if er ≠ 0 then (er, 0) else match fbU n 0 l with
 | some i => (4, (i : Int))
 | none => if l = [] then (1, 0) else (0, 0)
theorem fb_none {n : Nat} : ∀ (l : List Int) (i : Nat), fbU n i l = none -> ∀ x ∈ l, 0 <= x /\ x < n
 | [], _, _, x, hx => by cases hx
 | y :: l, i, h, x, hx => by
  rw [fbU] at h
  split at h
  ·rename_i q
   rcases List.mem_cons.1 hx with rfl | hx
   ·exact q
   ·exact fb_none l (i + 1) h x hx
  ·cases h
theorem fb_of {n : Nat} : ∀ (l : List Int) (i : Nat), (∀ x ∈ l, 0 <= x /\ x < n) -> fbU n i l = none
 | [], _, _ => rfl
 | y :: l, i, h => by
  rw [fbU, if_pos (h y (List.mem_cons_self ..))]
  exact fb_of l (i + 1) fun x hx => h x (List.mem_cons_of_mem _ hx)
theorem cp_ok {er : Int} {n : Nat} {l : List Int} (h : (cpU er n l).1 = 0) : er = 0 /\ l ≠ [] /\ (∀ x ∈ l, 0 <= x /\ x < n) /\ cpU er n l = (0, 0) := by
 unfold cpU at h ⊢
 by_cases h0 : er = 0
 ·rw [if_neg (by simpa using h0)] at h ⊢
  cases hf : fbU n 0 l with
  | some i => rw [hf] at h; cases h
  | none =>
   rw [hf] at h
   dsimp only at h ⊢
   by_cases hl : l = []
   ·rw [if_pos hl] at h; cases h
   ·rw [if_neg hl]
    exact ⟨h0, hl, fb_none l 0 hf, rfl⟩
 ·rw [if_pos h0] at h
  exact absurd h h0
theorem cp_of {n : Nat} {l : List Int} (hl : l ≠ []) (h : ∀ x ∈ l, 0 <= x /\ x < n) : cpU 0 n l = (0, 0) := by
 unfold cpU
 rw [if_neg (by simp), fb_of l 0 h]
 exact if_neg hl
set_option linter.unusedSimpArgs false in
set_option maxRecDepth 100000 in
set_option maxHeartbeats 4000000 in
theorem checkProds_W {w : World} {g : GV} {pa : Option Addr} {pc : Nat} {l : List Int} (hg : GAt 140737488355328 w g) (hpc : g.ps.length <= g.pc) (er at_ : Int) (hE : checkG g (checkF g.ts g.ns) = (er, at_)) (hli : InRow w pa l) (hl : l.length <= 1000000000) : Calls Tryz.prog 23 #[g.val, .slice pa l.length pc] w fun e w' => e = .returned (.tuple #[.int .i64 (cpU er g.ps.length l).1, .int .i64 (cpU er g.ps.length l).2]) /\ Below w.heap.size w w' := by
 have X0 : Hid (Below w.heap.size w (w.alloc (gBox g)) /\ (w.alloc (gBox g)).heap[w.heap.size]? = some (gBox g)) := ⟨below_alloc _ _, heap_alloc_new _ _⟩
 have CK : Hid (∀ w', Below w.heap.size w w' -> Calls Tryz.prog 17 #[g.val] w' fun e w'' => e = .returned (.tuple #[.int .i64 er, .int .i64 at_]) /\ Below w'.heap.size w' w'') := fun w' hb => check_G g w' (hg.later hb) hpc er at_ hE
 have CP : Hid (∀ (n : Int) w', Calls Tryz.prog 57 #[g.val, .int .i64 n] w' fun e w'' => e = .returned (.bool (decide (0 <= n) && decide (n < g.ps.length))) /\ Below w'.heap.size w' w'') := fun n w' => isProd_W g n w' hg.pl
 have HL : Hid (∀ w', Below w.heap.size w w' -> InRow w' pa l) := fun w' hb => hli.later hb
 obtain ⟨x0, x1, x2, x3, x4⟩ := gbx_cells X0.out.2
 clear hg hpc hE hli
 by_cases h0 : er = 0
 ·subst h0
  have t1 : ((0 : Int) != 0) = false := by decide
  have HC : Hid (cpU 0 g.ps.length l = match fbU g.ps.length 0 l with
   | some i => (4, (i : Int))
   | none => if l = [] then (1, 0) else (0, 0)) := if_neg (by simp)
  go_enter Tryz.func23, Tryz.ntmps23
  go_wp2_with (go_at_call 17; refine (CK.out _ X0.out.1).mono ?_; rintro e w2 ⟨rfl, b2⟩; have B2 : Hid (Below w.heap.size w w2 /\ w2.heap[w.heap.size]? = some (gBox g)) := ⟨X0.out.1.trans (b2.mono X0.out.1.size), (b2.block _ (lt_of_block X0.out.2)).trans X0.out.2⟩; clear b2 x0 x1 x2 x3 x4)
  go_loopw [20] (fun z wr => ∃ k : Nat, k <= l.length /\ z = .int .i64 k /\ (Below w.heap.size w wr /\ wr.heap[w.heap.size]? = some (gBox g)) /\ fbU g.ps.length k (l.drop k) = fbU g.ps.length 0 l) (fun i _ => l.length - (intOf i).toNat)
  case atStart => exact ⟨0, Nat.zero_le _, rfl, B2.out, rfl⟩
  case round =>
   clear B2 CK X0
   obtain ⟨k, hk, rfl, hB, hf⟩ := hrel
   have BB : Hid (Below w.heap.size w wr /\ wr.heap[w.heap.size]? = some (gBox g)) := hB
   by_cases hlt : k < l.length
   ·obtain ⟨b, off, rfl, hbl, hc⟩ := HL.out _ hB.1 (by intro h; subst h; simp at hlt)
    have c0 := hc k hlt
    have e0 : l.getD k 0 = l[k] := by simp [List.getD, hlt]
    obtain ⟨x0, x1, x2, x3, x4⟩ := gbx_cells hB.2
    rw [List.drop_eq_getElem_cons hlt, fbU] at hf
    rw [e0] at c0
    generalize l[k] = x at *
    have CX := CP.out x
    by_cases hx : 0 <= x /\ x < g.ps.length
    ·have tb : (decide (0 <= x) && decide (x < (g.ps.length : Int))) = true := by simpa using hx
     rw [if_pos hx] at hf
     have HF : Hid (fbU g.ps.length (k + 1) (l.drop (k + 1)) = fbU g.ps.length 0 l) := hf
     rw [tb] at CX
     have CX' : Hid _ := CX
     clear hB hc hf e0 hbl hx tb CX
     go_wp2_with (go_at_call 57; refine (CX'.out _).mono ?_; rintro e w3 ⟨rfl, b3⟩; have B3 : Hid (Below w.heap.size w w3 /\ w3.heap[w.heap.size]? = some (gBox g)) := ⟨BB.out.1.trans (b3.mono BB.out.1.size), (b3.block _ (lt_of_block BB.out.2)).trans BB.out.2⟩; clear b3)
     go_roundw
     case rel => exact ⟨k + 1, by omega, by go_num, B3.out, HF.out⟩
     case measure => simp [intOf]; omega
    ·have tb : (decide (0 <= x) && decide (x < (g.ps.length : Int))) = false := by
      simpa using hx
     rw [if_neg hx] at hf
     have HF : Hid (cpU 0 g.ps.length l = (4, (k : Int))) := by show _ = _; rw [HC.out, <- hf]
     rw [tb] at CX
     have CX' : Hid _ := CX
     clear hB hc hf e0 hbl hx tb CX
     go_wp2_with (go_at_call 57; refine (CX'.out _).mono ?_; rintro e w3 ⟨rfl, b3⟩; have B3 : Hid (Below w.heap.size w w3) := BB.out.1.trans (b3.mono BB.out.1.size); clear b3)
     refine bodyPost_ret (results_tmp2 rfl _ _ _) rfl ?_
     rw [HF.out]
     exact ⟨rfl, B3.out⟩
   ·obtain rfl : k = l.length := by omega
    rw [List.drop_length, fbU] at hf
    by_cases hn : l = []
    ·subst hn
     have HF : Hid (cpU 0 g.ps.length [] = (1, 0)) := by show _ = _; rw [HC.out, <- hf]; rfl
     clear hB hf HC
     simp only [List.length_nil] at *
     go_wp2
     refine bodyPost_ret (results_tmp2 rfl _ _ _) rfl ?_
     rw [HF.out]
     exact ⟨rfl, BB.out.1⟩
    ·have HF : Hid (cpU 0 g.ps.length l = (0, 0)) := by show _ = _; rw [HC.out, <- hf]; exact if_neg hn
     have tn : ((l.length : Int) == 0) = false := by
      have := List.length_pos_iff.2 hn
      simp; omega
     clear hB hf HC hn
     go_wp2
     refine bodyPost_ret (results_tmp2 rfl _ _ _) rfl ?_
     rw [HF.out]
     exact ⟨rfl, BB.out.1⟩
 ·have t1 : (er != 0) = true := by simpa using h0
  have HC : Hid (cpU er g.ps.length l = (er, 0)) := if_pos h0
  clear h0
  go_enter Tryz.func23, Tryz.ntmps23
  go_wp2_with (go_at_call 17; refine (CK.out _ X0.out.1).mono ?_; rintro e w2 ⟨rfl, b2⟩; have R : Hid (Below w.heap.size w w2) := X0.out.1.trans (b2.mono X0.out.1.size); clear b2)
  refine bodyPost_ret (results_tmp2 rfl _ _ _) rfl ?_
  rw [HC.out]
  exact ⟨rfl, R.out⟩
def ansE (N : Nat) (u : Option TV × Int × Int) (e : Ending) (w' : World) : Prop := match u with
 | (none, e1, at_) => e = .returned (.tuple #[TV.none.val, .int .i64 e1, .int .i64 at_])
 | (some t, _, _) => ∃ t', samV t' t /\ OwT N w' t' /\ e = .returned (.tuple #[t'.val, .int .i64 0, .int .i64 0])
theorem dvE_ans {N : Nat} {g : GV} {l : List Int} {L : List (Int × ByteArray)} {e : Ending} {w' : World} (h : dvE N g l L e w') : ansE N (deriveU g l L) e w' := by
 unfold dvE at h
 unfold ansE
 generalize deriveU g l L = u at *
 obtain ⟨ot, e1, e2⟩ := u
 cases ot <;> exact h
def fromU (cp : Int × Int) (u : Option TV × Int × Int) : Option TV × Int × Int := if cp.1 ≠ 0 then (none, cp.1, cp.2) else u
set_option linter.unusedSimpArgs false in
set_option maxRecDepth 100000 in
set_option maxHeartbeats 4000000 in
theorem fromLeft_W {w : World} {g : GV} {pa wa : Option Addr} {pc wc : Nat} {l : List Int} {L : List (Int × ByteArray)} (hg : GAt 140737488355328 w g) (hpc : g.ps.length <= g.pc) (er at_ : Int) (hE : checkG g (checkF g.ts g.ns) = (er, at_)) (hli : InRow w pa l) (hl : l.length <= 1000000000) (u : Option TV × Int × Int)
  (hD : (cpU er g.ps.length l).1 = 0 -> ∀ w', Below w.heap.size w w' -> Calls Tryz.prog 24 #[g.val, .slice pa l.length pc, .slice wa L.length wc] w' fun e w'' => Below w'.heap.size w' w'' /\ ansE w'.heap.size u e w'') :
  Calls Tryz.prog 8 #[g.val, .slice pa l.length pc, .slice wa L.length wc] w fun e w' => Below w.heap.size w w' /\ ansE w.heap.size (fromU (cpU er g.ps.length l) u) e w' := by
 have X0 : Hid (Below w.heap.size w ((w.alloc (gBox g)).alloc zTrB) /\ ((w.alloc (gBox g)).alloc zTrB).heap[w.heap.size]? = some (gBox g) /\ ((w.alloc (gBox g)).alloc zTrB).heap[w.heap.size + 1]? = some zTrB) := by
  have h1 := below_alloc w (gBox g)
  have h2 := below_alloc (w.alloc (gBox g)) zTrB
  refine ⟨h1.trans (h2.mono h1.size), (h2.block _ (by simp)).trans (heap_alloc_new _ _), ?_⟩
  have := heap_alloc_new (w.alloc (gBox g)) zTrB
  rwa [show (w.alloc (gBox g)).heap.size = w.heap.size + 1 by simp] at this
 have CP : Hid (∀ w', Below w.heap.size w w' -> Calls Tryz.prog 23 #[g.val, .slice pa l.length pc] w' fun e w'' => e = .returned (.tuple #[.int .i64 (cpU er g.ps.length l).1, .int .i64 (cpU er g.ps.length l).2]) /\ Below w'.heap.size w' w'') := fun w' hb => checkProds_W (hg.later hb) hpc er at_ hE (hli.later hb) hl
 have HD : Hid ((cpU er g.ps.length l).1 = 0 -> ∀ w', Below w.heap.size w w' -> Calls Tryz.prog 24 #[g.val, .slice pa l.length pc, .slice wa L.length wc] w' fun e w'' => Below w'.heap.size w' w'' /\ ansE w'.heap.size u e w'') := hD
 obtain ⟨x0, x1, x2, x3, x4⟩ := gbx_cells X0.out.2.1
 clear hg hpc hE hli hl hD
 generalize cpU er g.ps.length l = cp at *
 obtain ⟨c1, c2⟩ := cp
 dsimp only at *
 have NB : Hid (∀ w2 : World, Below w.heap.size w w2 -> w2.heap[w.heap.size + 1]? = some zTrB -> (Below w.heap.size w (set4 w2 (w.heap.size + 1) 0 TV.none)) /\ TBx (set4 w2 (w.heap.size + 1) 0 TV.none) (w.heap.size + 1) 0 TV.none) := fun w2 h1 h2 =>
  ⟨set4_below h1 0 _ (by omega), set4_tbx _ ((cellq_any h2).trans rfl) ((cellq_any h2).trans rfl) ((cellq_any h2).trans rfl) ((cellq_any h2).trans rfl) (lt_of_block h2)⟩
 have FZ : Hid (∀ w2 : World, w2.heap[w.heap.size + 1]? = some zTrB -> (w2.frozen? ⟨w.heap.size + 1, 0, none⟩ = false /\ w2.frozen? ⟨w.heap.size + 1, 1, none⟩ = false /\ w2.frozen? ⟨w.heap.size + 1, 2, none⟩ = false /\ w2.frozen? ⟨w.heap.size + 1, 3, none⟩ = false) /\ w2.cell? ⟨w.heap.size + 1, 0, none⟩ = some (.int .i64 0) /\ w2.cell? ⟨w.heap.size + 1, 1, none⟩ = some (.int .i64 0) /\ w2.cell? ⟨w.heap.size + 1, 2, none⟩ = some (.string ⟨#[]⟩) /\ w2.cell? ⟨w.heap.size + 1, 3, none⟩ = some (.slice none 0 0)) := fun w2 h => by
  have f0 : ∀ i, w2.frozen? ⟨w.heap.size + 1, i, none⟩ = false := fun i => by simp [World.frozen?, h]
  exact ⟨⟨f0 0, f0 1, f0 2, f0 3⟩, (cellq_any h).trans rfl, (cellq_any h).trans rfl, (cellq_any h).trans rfl, (cellq_any h).trans rfl⟩
 by_cases h0 : c1 = 0
 ·subst h0
  have t1 : ((0 : Int) != 0) = false := by decide
  have eF : fromU (0, c2) u = u := if_neg (by simp)
  rw [eF]
  clear eF
  have HD0 := HD.out rfl
  obtain ⟨ot, e1, e2⟩ := u
  cases ot with
  | none =>
   have HD2 : Hid (∀ w', Below w.heap.size w w' -> Calls Tryz.prog 24 #[g.val, .slice pa l.length pc, .slice wa L.length wc] w' fun e w'' => e = .returned (.tuple #[.agg #[.int .i64 0, .int .i64 0, .string ⟨#[]⟩, .slice none 0 0], .int .i64 e1, .int .i64 e2]) /\ Below w'.heap.size w' w'') := fun w' hb => (HD0 w' hb).mono fun e w'' ⟨q1, q2⟩ => ⟨q2, q1⟩
   clear HD HD0
   go_enter Tryz.func8, Tryz.ntmps8
   go_upto_region 4 with (go_at_call 23; refine (CP.out _ X0.out.1).mono ?_; rintro e w2 ⟨rfl, b2⟩; have B2 : Hid (Below w.heap.size w w2 /\ w2.heap[w.heap.size]? = some (gBox g) /\ w2.heap[w.heap.size + 1]? = some zTrB) := ⟨X0.out.1.trans (b2.mono X0.out.1.size), (b2.block _ (lt_of_block X0.out.2.1)).trans X0.out.2.1, (b2.block _ (lt_of_block X0.out.2.2)).trans X0.out.2.2⟩; clear b2 x0 x1 x2 x3 x4; obtain ⟨x0, x1, x2, x3, x4⟩ := gbx_cells B2.out.2.1)
   go_wp2_with (go_at_call 24; refine (HD2.out _ B2.out.1).mono ?_; rintro e w3 ⟨rfl, b3⟩; have B3 : Hid (Below w.heap.size w w3 /\ w3.heap[w.heap.size + 1]? = some zTrB) := ⟨B2.out.1.trans (b3.mono B2.out.1.size), (b3.block _ (lt_of_block B2.out.2.2)).trans B2.out.2.2⟩; clear b3 x0 x1 x2 x3 x4; obtain ⟨⟨f0, f1, f2, f3⟩, z0, z1, z2, z3⟩ := FZ.out w3 B3.out.2)
   have B4 : Hid _ := NB.out w3 B3.out.1 B3.out.2
   change bodyPost _ _ _ _ _ (set4 w3 (w.heap.size + 1) 0 TV.none)
   generalize set4 w3 (w.heap.size + 1) 0 TV.none = w5 at *
   have y0 := B4.out.2.c0
   have y1 := B4.out.2.c1
   have y2 := B4.out.2.c2
   have y3 := B4.out.2.c3
   simp only [Nat.zero_add] at y1 y2 y3
   refine bodyPost_ret (v := .tuple #[TV.none.val, .int .i64 e1, .int .i64 e2]) (by simp [results, Tryz.results8, go_sem, y0, y1, y2, y3]) rfl ?_
   exact ⟨B4.out.1, rfl⟩
  | some t0 =>
   have HD2 : Hid (∀ w', Below w.heap.size w w' -> Calls Tryz.prog 24 #[g.val, .slice pa l.length pc, .slice wa L.length wc] w' fun e w'' => ∃ t', e = .returned (.tuple #[t'.val, .int .i64 0, .int .i64 0]) /\ Below w'.heap.size w' w'' /\ samV t' t0 /\ OwT w'.heap.size w'' t') := fun w' hb => (HD0 w' hb).mono fun e w'' ⟨q1, t', q2, q3, q4⟩ => ⟨t', q4, q1, q2, q3⟩
   clear HD HD0
   go_enter Tryz.func8, Tryz.ntmps8
   go_upto_region 4 with (go_at_call 23; refine (CP.out _ X0.out.1).mono ?_; rintro e w2 ⟨rfl, b2⟩; have B2 : Hid (Below w.heap.size w w2 /\ w2.heap[w.heap.size]? = some (gBox g) /\ w2.heap[w.heap.size + 1]? = some zTrB) := ⟨X0.out.1.trans (b2.mono X0.out.1.size), (b2.block _ (lt_of_block X0.out.2.1)).trans X0.out.2.1, (b2.block _ (lt_of_block X0.out.2.2)).trans X0.out.2.2⟩; clear b2 x0 x1 x2 x3 x4; obtain ⟨x0, x1, x2, x3, x4⟩ := gbx_cells B2.out.2.1)
   go_wp2_with (go_at_call 24; refine (HD2.out _ B2.out.1).mono ?_; rintro e w3 ⟨t, rfl, b3, s3, o3⟩; have B3 : Hid (Below w.heap.size w w3 /\ w3.heap[w.heap.size + 1]? = some zTrB /\ samV t t0 /\ OwT w2.heap.size w3 t /\ w.heap.size + 1 < w2.heap.size) := ⟨B2.out.1.trans (b3.mono B2.out.1.size), (b3.block _ (lt_of_block B2.out.2.2)).trans B2.out.2.2, s3, o3, lt_of_block B2.out.2.2⟩; clear b3 s3 o3 x0 x1 x2 x3 x4; obtain ⟨⟨f0, f1, f2, f3⟩, z0, z1, z2, z3⟩ := FZ.out w3 B3.out.2.1)
   have H5 : Hid (Below w.heap.size w (set4 w3 (w.heap.size + 1) 0 t) /\ TBx (set4 w3 (w.heap.size + 1) 0 t) (w.heap.size + 1) 0 t /\ OwT w.heap.size (set4 w3 (w.heap.size + 1) 0 t) t) := by
    obtain ⟨a1, a2, -, a3, a4⟩ := B3.out
    refine ⟨set4_below a1 0 t (by omega), set4_tbx t z0 z1 z2 z3 (lt_of_block a2), ?_⟩
    have := a3.kept (w' := set4 w3 (w.heap.size + 1) 0 t) (fun a ha => set4_other _ _ _ _ _ (by have := (a3.ty a ha).1; omega)) (by rw [set4_size]; exact Nat.le_refl _)
    exact ⟨this.ta, this.cn, fun a ha => ⟨by have := (this.ty a ha).1; omega, (this.ty a ha).2⟩⟩
   change bodyPost _ _ _ _ _ (set4 w3 (w.heap.size + 1) 0 t)
   generalize set4 w3 (w.heap.size + 1) 0 t = w5 at *
   have y0 := H5.out.2.1.c0
   have y1 := H5.out.2.1.c1
   have y2 := H5.out.2.1.c2
   have y3 := H5.out.2.1.c3
   simp only [Nat.zero_add] at y1 y2 y3
   refine bodyPost_ret (v := .tuple #[t.val, .int .i64 0, .int .i64 0]) (by simp [results, Tryz.results8, go_sem, y0, y1, y2, y3]) rfl ?_
   exact ⟨H5.out.1, t, B3.out.2.2.1, H5.out.2.2, rfl⟩
 ·have t1 : (c1 != 0) = true := by simpa using h0
  have eF : fromU (c1, c2) u = (none, c1, c2) := if_pos h0
  rw [eF]
  clear eF h0 HD
  go_enter Tryz.func8, Tryz.ntmps8
  go_upto_region 3 with (go_at_call 23; refine (CP.out _ X0.out.1).mono ?_; rintro e w2 ⟨rfl, b2⟩; have B3 : Hid (Below w.heap.size w w2 /\ w2.heap[w.heap.size + 1]? = some zTrB) := ⟨X0.out.1.trans (b2.mono X0.out.1.size), (b2.block _ (lt_of_block X0.out.2.2)).trans X0.out.2.2⟩; clear b2 x0 x1 x2 x3 x4; obtain ⟨⟨f0, f1, f2, f3⟩, z0, z1, z2, z3⟩ := FZ.out w2 B3.out.2)
  have B4 : Hid _ := NB.out w2 B3.out.1 B3.out.2
  go_wp2
  change bodyPost _ _ _ _ _ (set4 w2 (w.heap.size + 1) 0 TV.none)
  generalize set4 w2 (w.heap.size + 1) 0 TV.none = w5 at *
  have y0 := B4.out.2.c0
  have y1 := B4.out.2.c1
  have y2 := B4.out.2.c2
  have y3 := B4.out.2.c3
  simp only [Nat.zero_add] at y1 y2 y3
  refine bodyPost_ret (v := .tuple #[TV.none.val, .int .i64 c1, .int .i64 c2]) (by simp [results, Tryz.results8, go_sem, y0, y1, y2, y3]) rfl ?_
  exact ⟨B4.out.1, rfl⟩
def mirF : Nat -> TV -> TV
 | 0, t => t
 | n + 1, t => t.sk ((t.kids.map (mirF n)).reverse)
def mirT (t : TV) : TV := mirF (tsz t) t
theorem mp_congr {α β : Type} {f f' : α -> β} : ∀ (l : List α), (∀ x ∈ l, f x = f' x) -> l.map f = l.map f'
 | [], _ => rfl
 | x :: l, h => by rw [List.map_cons, List.map_cons, h x (List.mem_cons_self ..), mp_congr l (fun y hy => h y (List.mem_cons_of_mem _ hy))]
theorem sg_parts {t u : TV} (h : sgV t = sgV u) : t.prod = u.prod /\ t.kind = u.kind /\ t.tx = u.tx /\ t.kids.length = u.kids.length := by
 unfold sgV at h
 simpa only [Prod.mk.injEq] using h
def finT : List Nat -> Nat -> TV -> TV
 | [], n, T => T.sk (T.kids.take n ++ (T.kids.drop n).map mirT)
 | i :: π, n, T => T.sk (T.kids.take i ++ finT π n (T.kids.getD i .none) :: (T.kids.drop (i + 1)).map mirT)
structure RvJ (r : Nat) (ob : Obj) (N : Nat) (w0 : World) (p0 q0 : Nat) (T : TV) (w : World) : Prop where
 bel : Below N w0 w
 nz : N <= w.heap.size
 sz : szT T <= 100000000
 tb : TBx w p0 q0 T
 ta : TAt w T
 cn : ∀ a, (adsT p0 q0 T).count a <= 1
 ty : ∀ a ∈ adsT p0 q0 T, N <= a.1 /\ a.2 % 4 = 0 /\ ∃ cs, w.heap[a.1]? = some (.cells cs 32)
 rs : ¬ Stp ob
 rb : w.heap[r]? = some ob
 rn : ∀ a ∈ adsT p0 q0 T, a.1 ≠ r
theorem RvJ.still {r : Nat} {ob : Obj} {N : Nat} {w0 : World} {p0 q0 : Nat} {T : TV} {w w' : World} (h : RvJ r ob N w0 p0 q0 T w) (hn : NoStp N w w') : RvJ r ob N w0 p0 q0 T w' := by
 have hk : ∀ a ∈ adsT p0 q0 T, w'.heap[a.1]? = w.heap[a.1]? := fun a ha => by
  have hl := ads_lt h.tb h.ta ha
  obtain ⟨o, ho⟩ : ∃ o, w.heap[a.1]? = some o := ⟨_, Array.getElem?_eq_getElem hl⟩
  rw [ho]
  refine hn.keep _ _ ho fun ⟨h1, h2⟩ => ?_
  obtain ⟨_, _, cs, hc⟩ := h.ty a ha
  rw [ho] at hc
  cases hc
  exact not_stpT h2
 have hc : ∀ a ∈ adsT p0 q0 T, C4 w w' a := fun a ha => ⟨Nat.lt_of_lt_of_le (ads_lt h.tb h.ta ha) hn.size, fun j _ => World.cell?_of_block (hk a ha)⟩
 refine ⟨⟨hn.os.trans h.bel.os, hn.tape.trans h.bel.tape, hn.output.trans h.bel.output, Nat.le_trans h.bel.size hn.size, fun j hj => by
  have hl := Nat.lt_of_lt_of_le hj h.nz
  obtain ⟨o, ho⟩ : ∃ o, w.heap[j]? = some o := ⟨_, Array.getElem?_eq_getElem hl⟩
  rw [hn.keep j o ho fun ⟨h1, _⟩ => by omega, <- ho]
  exact h.bel.block j hj⟩, Nat.le_trans h.nz hn.size, h.sz, (hc _ (adsT_root _ _ _)).tbx h.tb, keep_at T p0 q0 h.ta fun a ha => hc a (by rw [adsT_eq]; exact List.mem_cons_of_mem _ ha), h.cn, fun a ha => ?_, h.rs, hn.keep _ _ h.rb fun ⟨_, x⟩ => h.rs x, h.rn⟩
 rw [hk a ha]; exact h.ty a ha
structure RvI (r : Nat) (ob : Obj) (N : Nat) (w0 : World) (p0 q0 : Nat) (M : TV) (x : CpG) (S : List PA) (w : World) : Prop where
 j : RvJ r ob N w0 p0 q0 x.T w
 s : S = [] /\ samV x.T M /\ x.m = szT x.T /\ x.d = 0 ∨ okP x.π x.T /\ x.n <= (getAt x.π x.T).kids.length /\ x.m = nuP x.π x.T + 1 + szL ((getAt x.π x.T).kids.take x.n) /\ S = stkI x.π p0 q0 x.T ++ [((adP x.π p0 q0 x.T).1, (adP x.π p0 q0 x.T).2, x.n)] /\ x.d = x.π.length + 1 /\ samV (finT x.π x.n x.T) M
theorem RvI.top {r : Nat} {ob : Obj} {N : Nat} {w0 : World} {p0 q0 : Nat} {M : TV} {x : CpG} {S : List PA} {p q n : Nat} {w : World} (h : RvI r ob N w0 p0 q0 M x (S ++ [(p, q, n)]) w) :
  okP x.π x.T /\ x.n = n /\ n <= (getAt x.π x.T).kids.length /\ x.m = nuP x.π x.T + 1 + szL ((getAt x.π x.T).kids.take n) /\ S = stkI x.π p0 q0 x.T /\ adP x.π p0 q0 x.T = (p, q) /\ x.d = x.π.length + 1 /\ samV (finT x.π n x.T) M := by
 rcases h.s with ⟨e, _⟩ | ⟨h1, h2, h3, h4, h5, h6⟩
 ·simp at e
 ·have he := List.append_inj' h4 rfl
  have e2 := he.2
  simp only [List.cons.injEq, Prod.mk.injEq, and_true] at e2
  obtain ⟨e3, e4, e5⟩ := e2
  rw [<- e5] at h2 h3 h6
  exact ⟨h1, e5.symm, h2, h3, he.1, Prod.ext e3.symm e4.symm, h5, h6⟩
def szF (S : List FrB) : Nat := (S.map fun f => 1 + szL f.ks).sum
def szA (A : AB) : Nat := szL A.1 + szF A.2
theorem szF_cons (f : FrB) (S : List FrB) : szF (f :: S) = 1 + szL f.ks + szF S := by simp [szF]
theorem szT_nd (f : FrB) : szT (ndT f) = 1 + szL f.ks := by
 rw [szT_eq]
 show szL f.ks + 1 = _
 omega
theorem szL_snoc (l : List TV) (t : TV) : szL (l ++ [t]) = szL l + szT t := by
 rw [szL_app, szL_cons]
 have : szL [] = 0 := rfl
 omega
theorem szA_ad (A : AB) (t : TV) : szA (adA A t) = szA A + szT t := by
 obtain ⟨D, S⟩ := A
 cases S with
 | nil =>
  show szL (D ++ [t]) + szF [] = szL D + szF [] + szT t
  rw [szL_snoc]; omega
 | cons f S =>
  show szL D + szF (⟨f.p, f.k, f.ks ++ [t]⟩ :: S) = szL D + szF (f :: S) + szT t
  rw [szF_cons, szF_cons, szL_snoc]; omega
theorem szA_cl : ∀ (S : List FrB) (D : List TV), szA (clU2 (D, S)) = szA (D, S)
 | [], D => by rw [clU2_nil]
 | f :: S, D => by
  rw [clU2_cons]
  by_cases hk : f.ks.length = f.k
  ·rw [if_pos hk]
   have e : szA (adA (D, S) (ndT f)) = szA (D, f :: S) := by
    rw [szA_ad, szT_nd]
    show szL D + szF S + (1 + szL f.ks) = szL D + szF (f :: S)
    rw [szF_cons]; omega
   rw [<- e]
   cases S with
   | nil => exact szA_cl [] _
   | cons g' S => exact szA_cl (⟨g'.p, g'.k, g'.ks ++ [ndT f]⟩ :: S) D
  ·rw [if_neg hk]
termination_by S => S.length
theorem szA_clU (A : AB) : szA (clU2 A) = szA A := szA_cl A.2 A.1
theorem wpX_world8 {P : Program} {md : Region.Mode} {ops : Array Oper} {Q : Exit -> Act -> World -> Prop} {S : Array Bool -> World -> Prop} {n : Nat} {L : Array Bool} {a : Act} {w : World} (I : World -> Prop) (h : I w) (k : ∀ w', I w' -> wpAnyX P md ops Q S n L a w') : wpAnyX P md ops Q S n L a w := k w h
def anT (u : Option TV × Int × Int) : TV × Int × Int := match u with
 | (none, e1, e2) => (TV.none, e1, e2)
 | (some t, _, _) => (t, 0, 0)
theorem owT_none (N : Nat) (w : World) : OwT N w TV.none := ⟨TAt.mk _ (fun h => absurd rfl h) (fun k hk => by cases hk), fun a => by show (adsL []).count a <= 1; simp [adsL], fun a ha => by cases ha⟩
theorem ansE_T {N : Nat} {u : Option TV × Int × Int} {e : Ending} {w' : World} (h : ansE N u e w') : ∃ T, samV T (anT u).1 /\ OwT N w' T /\ e = .returned (.tuple #[T.val, .int .i64 (anT u).2.1, .int .i64 (anT u).2.2]) := by
 obtain ⟨ot, e1, e2⟩ := u
 cases ot with
 | none => exact ⟨TV.none, samV_refl _, owT_none _ _, h⟩
 | some t => exact h
structure MrJ (W : World) (l : List Int) (L : List (Int × ByteArray)) (t0 : TV) (A : Nat) (x y : Option Addr × Nat) (T : TV) (b : Option Nat) (w' : World) : Prop where
 bel : Below W.heap.size W w'
 x1 : 1 <= A -> InRow w' x.1 l.reverse
 y2 : 2 <= A -> TkRow w' y.1 L.reverse
 t3 : 3 <= A -> samV T t0 /\ OwT W.heap.size w' T
 b4 : ∀ k, b = some k -> w'.heap[k]? = some zTrB /\ W.heap.size <= k /\ (3 <= A -> ∀ a ∈ adsL (kidsA T), a.1 ≠ k)
theorem MrJ.later {W : World} {l : List Int} {L : List (Int × ByteArray)} {t0 : TV} {A : Nat} {x y : Option Addr × Nat} {T : TV} {b : Option Nat} {w w' : World} (h : MrJ W l L t0 A x y T b w) (hb : Below w.heap.size w w') : MrJ W l L t0 A x y T b w' :=
 ⟨h.bel.trans (hb.mono h.bel.size), fun hA => (h.x1 hA).later hb, fun hA => (h.y2 hA).later hb, fun hA => ⟨(h.t3 hA).1, (h.t3 hA).2.later hb⟩, fun k e => ⟨(hb.block _ (lt_of_block (h.b4 k e).1)).trans (h.b4 k e).1, (h.b4 k e).2⟩⟩
theorem MrJ.one {W : World} {l : List Int} {L : List (Int × ByteArray)} {t0 : TV} {x y : Option Addr × Nat} {T : TV} {b : Option Nat} {w w' : World} {a : Option Addr} {c : Nat} (h : MrJ W l L t0 0 x y T b w) (hr : InRow w' a l.reverse) (hb : Below w.heap.size w w') : MrJ W l L t0 1 (a, c) y T b w' := by
 have k := h.later hb
 exact ⟨k.bel, fun _ => hr, (fun h => by omega), (fun h => by omega), fun j e => ⟨(k.b4 j e).1, (k.b4 j e).2.1, fun h => by omega⟩⟩
theorem MrJ.two {W : World} {l : List Int} {L : List (Int × ByteArray)} {t0 : TV} {x y : Option Addr × Nat} {T : TV} {b : Option Nat} {w w' : World} {a : Option Addr} {c : Nat} (h : MrJ W l L t0 1 x y T b w) (hr : TkRow w' a L.reverse) (hb : Below w.heap.size w w') : MrJ W l L t0 2 x (a, c) T b w' := by
 have k := h.later hb
 exact ⟨k.bel, fun _ => k.x1 (by omega), fun _ => hr, (fun h => by omega), fun j e => ⟨(k.b4 j e).1, (k.b4 j e).2.1, fun h => by omega⟩⟩
theorem MrJ.three {W : World} {l : List Int} {L : List (Int × ByteArray)} {t0 : TV} {x y : Option Addr × Nat} {T T' : TV} {b : Option Nat} {w w' : World} (h : MrJ W l L t0 2 x y T b w) (hb : Below w.heap.size w w') (sm : samV T' t0) (ow : OwT w.heap.size w' T') : MrJ W l L t0 3 x y T' b w' := by
 have k := h.later hb
 refine ⟨k.bel, fun _ => k.x1 (by omega), fun _ => k.y2 (by omega), fun _ => ⟨sm, ow.mono h.bel.size⟩, fun j e => ⟨(k.b4 j e).1, (k.b4 j e).2.1, fun _ a ha ej => ?_⟩⟩
 have h1 := (ow.ty a ha).1
 have h2 := lt_of_block (h.b4 j e).1
 omega
theorem MrJ.box {W : World} {l : List Int} {L : List (Int × ByteArray)} {t0 : TV} {A : Nat} {x y : Option Addr × Nat} {T : TV} {w : World} (h : MrJ W l L t0 A x y T none w) : MrJ W l L t0 A x y T (some w.heap.size) (w.alloc zTrB) := by
 have k := h.later (below_alloc w zTrB)
 refine ⟨k.bel, k.x1, k.y2, k.t3, fun j e => ?_⟩
 cases e
 refine ⟨heap_alloc_new _ _, h.bel.size, fun hA a ha ej => ?_⟩
 have := kids_lt (h.t3 hA).2.ta ha
 omega
theorem FromLeft_W {w : World} {g : GV} {pa wa : Option Addr} {pc wc : Nat} {l : List Int} {L : List (Int × ByteArray)} (hg : GAt 140737488355328 w g) (hpc : g.ps.length <= g.pc) (er at_ : Int) (hE : checkG g (checkF g.ts g.ns) = (er, at_)) (hli : InRow w pa l) (hLi : TkRow w wa L) (hb : l.length <= 1048576) (hB : L.length <= 1048576) :
  Calls Tryz.prog 8 #[g.val, .slice pa l.length pc, .slice wa L.length wc] w fun e w' => Below w.heap.size w w' /\ ansE w.heap.size (fromU (cpU er g.ps.length l) (deriveU g l L)) e w' :=
 fromLeft_W hg hpc er at_ hE hli (by omega) _ fun h0 w' hbw => by
  obtain ⟨-, h2, h3, -⟩ := cp_ok h0
  exact (derive_W h2 h3 (hg.later hbw) (hli.later hbw) (hLi.later hbw) (by omega) (by omega)).mono fun e w'' ⟨q1, q2⟩ => ⟨q1, dvE_ans q2⟩
def nds (t : TV) : List Int := nodP (preT t)
def lvs (t : TV) : List (Int × ByteArray) := (leafT (preT t)).map tkV
theorem nds_eq (t : TV) : nds t = (if t.prod = -1 then [] else [t.prod]) ++ t.kids.flatMap nds := by
 have e : ∀ l : List TV, nodP (preL l) = l.flatMap nds := fun l => by
  induction l with
  | nil => rfl
  | cons a l ih => rw [preL, List.flatMap_cons, nodP_app, List.flatMap_cons, <- ih]; rfl
 unfold nds
 rw [preT_eq, <- List.singleton_append, nodP_app, e]
 congr 1
 unfold nodP
 by_cases h : t.prod = -1
 ·simp [h]
 ·simp [h]
theorem lvs_eq (t : TV) : lvs t = (if t.prod = -1 then [tkV t] else []) ++ t.kids.flatMap lvs := by
 have e : ∀ l : List TV, (leafT (preL l)).map tkV = l.flatMap lvs := fun l => by
  induction l with
  | nil => rfl
  | cons a l ih => rw [preL, List.flatMap_cons, leafT_app, List.map_append, List.flatMap_cons, <- ih]; rfl
 unfold lvs
 rw [preT_eq, <- List.singleton_append, leafT_app, List.map_append, e]
 congr 1
 unfold leafT
 by_cases h : t.prod = -1
 ·simp [h]
 ·simp [h]
def Gd1 (g : GV) (x : TV) : Prop := alTU g x = 0 /\ (x.prod ≠ -1 -> x.kids.map (rootU g) = rightU g x)
def GdT (g : GV) (t : TV) : Prop := AllP (Gd1 g) t
theorem gd_leaf {g : GV} {t : TV} (h : Gd1 g t) (hp : t.prod = -1) : 0 <= t.kind /\ t.kind < g.ts.length /\ t.kids = [] := by
 have := h.1
 unfold alTU at this
 rw [if_pos hp] at this
 split at this
 ·cases this
 ·rename_i q
  refine ⟨by omega, by omega, List.eq_nil_of_length_eq_zero (by omega)⟩
theorem gd_node {g : GV} {t : TV} (h : Gd1 g t) (hp : ¬ t.prod = -1) : 0 <= t.prod /\ t.prod < g.ps.length /\ t.kind = 0 /\ t.tx.toList = [] /\ t.kids.length = (rightU g t).length := by
 have := h.1
 unfold alTU at this
 rw [if_neg hp] at this
 split at this
 ·cases this
 ·rename_i q
  simp only [not_or, Decidable.not_not] at q
  obtain ⟨a, b, c, d, e⟩ := q
  exact ⟨by omega, by omega, c, d, e⟩
theorem ckL_er {g : GV} : ∀ (r : List (Int × Int)) (l : List TV), l.map (rootU g) = r -> (∀ k ∈ l, ∀ s, rootU g k = s -> ∀ x ∈ ckT g s true k, erU g x = 0) -> ∀ x ∈ ckL g r l, erU g x = 0
 | _, [], _, _, x, hx => by rw [ckL_nil] at hx; cases hx
 | r, t :: l, hr, h, x, hx => by
  rw [ckL_cons] at hx
  rw [List.map_cons] at hr
  subst hr
  rcases List.mem_append.1 hx with hx | hx
  ·exact h t (List.mem_cons_self ..) _ rfl x hx
  ·exact ckL_er _ l rfl (fun k hk => h k (List.mem_cons_of_mem _ hk)) x hx
theorem gd_er {g : GV} (t : TV) : GdT g t -> ∀ s u, (u = true -> rootU g t = s) -> ∀ x ∈ ckT g s u t, erU g x = 0 := by
 induction t using TV.ind with
 | _ t ih =>
  intro h s u hu x hx
  have h1 := AllP.here h
  rw [ckT_eq] at hx
  rcases List.mem_cons.1 hx with rfl | hx
  ·unfold erU
   rw [if_neg (by simp [h1.1]), if_neg (fun q => q.2 (hu q.1))]
  ·by_cases hp : t.prod = -1
   ·rw [(gd_leaf h1 hp).2.2, ckL_nil] at hx
    cases hx
   ·exact ckL_er _ _ (h1.2 hp) (fun k hk s hs => ih k hk (AllP.kid h k hk) s true fun _ => hs) x hx
theorem run_all {g : GV} : ∀ (l : List SP) (n : Nat), (∀ x ∈ l, erU g x = 0) -> runU g l n = (0, n + l.length)
 | [], _, _ => rfl
 | y :: l, n, h => by
  rw [runU, if_neg (by simp [h y (List.mem_cons_self ..)]), run_all l (n + 1) fun x hx => h x (List.mem_cons_of_mem _ hx), List.length_cons]
  congr 1
  omega
theorem ck_len {g : GV} (t : TV) : ∀ s u, (ckT g s u t).length = szT t := by
 induction t using TV.ind with
 | _ t ih =>
  intro s u
  have e : ∀ (l : List TV) (r : List (Int × Int)), (∀ k ∈ l, ∀ s u, (ckT g s u k).length = szT k) -> (ckL g r l).length = szL l := fun l => by
   induction l with
   | nil => intro r _; rw [ckL_nil]; rfl
   | cons a l il =>
    intro r h
    rw [ckL_cons, List.length_append, il _ fun k hk => h k (List.mem_cons_of_mem _ hk), h a (List.mem_cons_self ..), szL_cons]
  rw [ckT_eq, List.length_cons, szT_eq, e _ _ ih]
theorem gd_run {g : GV} {t : TV} (h : GdT g t) : runU g (ckT g (0, 0) false t) 0 = (0, szT t) := by
 rw [run_all _ _ (gd_er t h (0, 0) false fun e => by cases e), ck_len, Nat.zero_add]
def rgP (g : GV) (p : Int) : List (Int × Int) := (g.ps.getD p.toNat .none).right
def lfP (g : GV) (p : Int) : Int := (g.ps.getD p.toNat .none).left
structure FOk (g : GV) (f : FrB) : Prop where
 ok : OkF g f
 rt : f.ks.map (rootU g) = (rgP g f.p).take f.ks.length
 gd : ∀ k ∈ f.ks, GdT g k
def lnk (g : GV) (f : FrB) : List FrB -> Prop
 | [] => True
 | f' :: _ => (rgP g f'.p)[f'.ks.length]? = some (2, lfP g f.p)
def WfS (g : GV) : List FrB -> Prop
 | [] => True
 | f :: S => FOk g f /\ lnk g f S /\ WfS g S
theorem WfS.pos {g : GV} : ∀ {S : List FrB}, WfS g S -> ∀ f ∈ S, 0 <= f.p
 | [], _, f, hf => by cases hf
 | f' :: S, h, f, hf => by
  rcases List.mem_cons.1 hf with rfl | hf
  ·exact h.1.ok.1
  ·exact WfS.pos h.2.2 f hf
theorem FOk.tree {g : GV} {f : FrB} (h : FOk g f) (hk : f.ks.length = f.k) : GdT g (ndT f) /\ rootU g (ndT f) = (2, lfP g f.p) := by
 obtain ⟨h1, h2, h3⟩ := h.ok
 have hr : f.ks.map (rootU g) = rgP g f.p := by
  rw [h.rt, hk, h3]
  exact List.take_length
 have hl : f.ks.length = (rgP g f.p).length := by rw [<- hr, List.length_map]
 have e1 : (ndT f).prod = f.p := rfl
 have e2 : (ndT f).kind = 0 := rfl
 have e3 : (ndT f).tx = ByteArray.empty := rfl
 have e4 : (ndT f).kids = f.ks := rfl
 have e5 : rightU g (ndT f) = rgP g f.p := rfl
 refine ⟨AllP.mk ⟨?_, fun _ => by rw [e4, e5]; exact hr⟩ (by rw [e4]; exact h.gd), ?_⟩
 ·unfold alTU
  rw [e1, e2, e3, e4, e5, if_neg (by omega), if_neg]
  simp only [not_or, Decidable.not_not]
  refine ⟨by omega, by omega, trivial, ?_, hl⟩
  rw [ByteArray.toList_eq]; rfl
 ·unfold rootU
  rw [e1, if_neg (by omega), if_pos ⟨h1, h2⟩]
  rfl
theorem FOk.add {g : GV} {f : FrB} (h : FOk g f) {t : TV} (ht : GdT g t) (hr : (rgP g f.p)[f.ks.length]? = some (rootU g t)) : FOk g ⟨f.p, f.k, f.ks ++ [t]⟩ := by
 refine ⟨h.ok, ?_, fun k hk => ?_⟩
 ·show (f.ks ++ [t]).map (rootU g) = (rgP g f.p).take (f.ks ++ [t]).length
  rw [List.map_append, h.rt, List.length_append, List.length_singleton, List.take_add_one, hr]
  rfl
 ·rcases List.mem_append.1 hk with hk | hk
  ·exact h.gd k hk
  ·simp only [List.mem_cons, List.not_mem_nil, or_false] at hk
   rw [hk]; exact ht
theorem WfS.add {g : GV} {S : List FrB} {t : TV} (h : WfS g S) (ht : GdT g t) (hl : ∀ f ∈ S.head?, (rgP g f.p)[f.ks.length]? = some (rootU g t)) : WfS g (adA ([], S) t).2 := by
 cases S with
 | nil => exact trivial
 | cons f S =>
  obtain ⟨h1, h2, h3⟩ := h
  refine ⟨h1.add ht (hl f (by simp)), ?_, h3⟩
  cases S with
  | nil => trivial
  | cons f' S => exact h2
def clnF : Nat -> TV -> TV
 | 0, t => t
 | n + 1, t => if t.prod = -1 then lfT t.kind t.tx else ndT ⟨t.prod, 0, t.kids.map (clnF n)⟩
def cln (t : TV) : TV := clnF (tsz t) t
theorem clnF_any : ∀ (n m : Nat) (t : TV), tsz t <= n -> tsz t <= m -> clnF n t = clnF m t
 | 0, _, t, h, _ => by have := tsz_pos t; omega
 | _ + 1, 0, t, _, h => by have := tsz_pos t; omega
 | n + 1, m + 1, t, h, h' => by
  rw [clnF, clnF]
  congr 3
  exact mp_congr _ fun k hk => clnF_any n m k (by have := kid_lt hk; omega) (by have := kid_lt hk; omega)
theorem cln_eq (t : TV) : cln t = if t.prod = -1 then lfT t.kind t.tx else ndT ⟨t.prod, 0, t.kids.map cln⟩ := by
 obtain ⟨n, hn⟩ : ∃ n, tsz t = n + 1 := ⟨tsz t - 1, by have := tsz_pos t; omega⟩
 conv => lhs; unfold cln
 rw [hn, clnF]
 congr 3
 exact mp_congr _ fun k hk => clnF_any _ _ k (by have := kid_lt hk; omega) (Nat.le_refl _)
theorem ba_nil {x : ByteArray} (h : x.toList = []) : x = ByteArray.empty := by
 rw [ByteArray.toList_eq] at h
 exact ByteArray.ext (Array.toList_inj.1 h)
theorem cln_sam {g : GV} (t : TV) : GdT g t -> samV (cln t) t := by
 induction t using TV.ind with
 | _ t ih =>
  intro h
  have h1 := AllP.here h
  rw [cln_eq]
  by_cases hp : t.prod = -1
  ·obtain ⟨a, b, c⟩ := gd_leaf h1 hp
   rw [if_pos hp]
   refine (samV_iff _ _).2 ⟨?_, fun i hi => by cases hi⟩
   unfold sgV
   show ((-1 : Int), t.kind, t.tx, 0) = _
   rw [c, hp]
   rfl
  ·obtain ⟨a, b, c, d, e⟩ := gd_node h1 hp
   rw [if_neg hp]
   refine (samV_iff _ _).2 ⟨?_, fun i hi hi' => ?_⟩
   ·unfold sgV
    show (t.prod, (0 : Int), ByteArray.empty, (t.kids.map cln).length) = _
    rw [c, ba_nil d, List.length_map]
   ·have e3 : (ndT ⟨t.prod, 0, t.kids.map cln⟩).kids[i]'hi = cln (t.kids[i]'hi') := by
     show (t.kids.map cln)[i]'(by simpa using hi') = _
     simp
    rw [e3]
    exact ih _ (List.getElem_mem hi') (AllP.kid h _ (List.getElem_mem hi'))
theorem wordU_at {L : List (Int × ByteArray)} {r : Nat} {q : Int × ByteArray} {R : List (Int × ByteArray)} (h : L.drop r = q :: R) : r < L.length /\ L.getD r (0, ByteArray.empty) = q /\ L.drop (r + 1) = R := by
 have hr : r < L.length := Classical.byContradiction fun e => by
  rw [List.drop_eq_nil_of_le (by omega)] at h; cases h
 rw [List.drop_eq_getElem_cons hr] at h
 simp only [List.cons.injEq] at h
 exact ⟨hr, by simp [List.getD, hr, h.1], h.2⟩
theorem prodU_at {l : List Int} {r : Nat} {q : Int} {R : List Int} (h : l.drop r = q :: R) : r < l.length /\ l.getD r 0 = q /\ l.drop (r + 1) = R := by
 have hr : r < l.length := Classical.byContradiction fun e => by
  rw [List.drop_eq_nil_of_le (by omega)] at h; cases h
 rw [List.drop_eq_getElem_cons hr] at h
 simp only [List.cons.injEq] at h
 exact ⟨hr, by simp [List.getD, hr, h.1], h.2⟩
theorem drop_app {β : Type} {l a b : List β} {u : Nat} (h : l.drop u = a ++ b) : l.drop (u + a.length) = b := by
 rw [<- List.drop_drop, h, List.drop_left]
def SimT (g : GV) (t : TV) : Prop := ∀ (l : List Int) (L : List (Int × ByteArray)) (n : Nat) (x : DvU) (R1 : List Int) (R2 : List (Int × ByteArray)), l.drop x.u = nds t ++ R1 -> L.drop x.r = lvs t ++ R2 -> nextU g l x.A = rootU g t -> wholeU x.A = false -> derU g l L (n + szT t) x = derU g l L n ⟨x.u + (nds t).length, x.r + (lvs t).length, clU2 (adA x.A (cln t))⟩
theorem sim_kids {g : GV} {l : List Int} {L : List (Int × ByteArray)} {p : Int} {k : Nat} {D : List TV} {S : List FrB} {n : Nat} : ∀ (ks2 ks1 : List TV) (u r : Nat) (R1 : List Int) (R2 : List (Int × ByteArray)), ks2 ≠ [] -> (∀ t ∈ ks2, SimT g t) -> k = ks1.length + ks2.length -> (∀ i (h : i < ks2.length), (rgP g p).getD (ks1.length + i) (0, 0) = rootU g ks2[i]) ->
  l.drop u = ks2.flatMap nds ++ R1 -> L.drop r = ks2.flatMap lvs ++ R2 -> derU g l L (n + szL ks2) ⟨u, r, (D, ⟨p, k, ks1⟩ :: S)⟩ = derU g l L n ⟨u + (ks2.flatMap nds).length, r + (ks2.flatMap lvs).length, clU2 (adA (D, S) (ndT ⟨p, k, ks1 ++ ks2.map cln⟩))⟩
 | [], _, _, _, _, _, h, _, _, _, _, _ => absurd rfl h
 | t :: ks2, ks1, u, r, R1, R2, _, hs, hk, hr, hd1, hd2 => by
  rw [List.flatMap_cons, List.append_assoc] at hd1 hd2
  have h0 := hr 0 (by simp)
  simp only [Nat.add_zero, List.getElem_cons_zero] at h0
  have hsim := hs t (List.mem_cons_self ..) l L (n + szL ks2) ⟨u, r, (D, ⟨p, k, ks1⟩ :: S)⟩ _ _ hd1 hd2 h0 rfl
  have e1 : n + szL (t :: ks2) = n + szL ks2 + szT t := by rw [szL_cons]; omega
  rw [e1, hsim]
  have e2 : adA (D, ⟨p, k, ks1⟩ :: S) (cln t) = (D, ⟨p, k, ks1 ++ [cln t]⟩ :: S) := rfl
  dsimp only
  rw [e2, clU2_cons]
  cases ks2 with
  | nil =>
   rw [if_pos (by simp only [List.length_append, List.length_cons, List.length_nil] at hk ⊢; omega)]
   simp only [List.flatMap_cons, List.flatMap_nil, List.append_nil, List.map_cons, List.map_nil]
   rfl
  | cons t2 ks3 =>
   rw [if_neg (by simp only [List.length_append, List.length_cons, List.length_nil] at hk ⊢; omega)]
   have IH := sim_kids (g := g) (l := l) (L := L) (p := p) (k := k) (D := D) (S := S) (n := n) (t2 :: ks3) (ks1 ++ [cln t]) (u + (nds t).length) (r + (lvs t).length) R1 R2 (by simp) (fun x hx => hs x (List.mem_cons_of_mem _ hx)) (by simp only [List.length_append, List.length_cons, List.length_nil] at hk ⊢; omega) (fun i hi => by
    have := hr (i + 1) (by simp only [List.length_cons] at hi ⊢; omega)
    simp only [List.getElem_cons_succ] at this
    rw [List.length_append, List.length_singleton, Nat.add_assoc, Nat.add_comm 1 i]
    exact this) (drop_app hd1) (drop_app hd2)
   rw [IH]
   have e3 : ks1 ++ [cln t] ++ (t2 :: ks3).map cln = ks1 ++ (t :: t2 :: ks3).map cln := by simp
   have e4 : u + (nds t).length + ((t2 :: ks3).flatMap nds).length = u + ((t :: t2 :: ks3).flatMap nds).length := by
    rw [List.flatMap_cons (xs := t2 :: ks3), List.length_append]; omega
   have e5 : r + (lvs t).length + ((t2 :: ks3).flatMap lvs).length = r + ((t :: t2 :: ks3).flatMap lvs).length := by
    rw [List.flatMap_cons (xs := t2 :: ks3), List.length_append]; omega
   rw [e3, e4, e5]
theorem sim_tree {g : GV} (t : TV) : GdT g t -> SimT g t := by
 induction t using TV.ind with
 | _ t ih =>
  intro h l L n x R1 R2 hd1 hd2 hnx hw
  obtain ⟨u, r, D, S⟩ := x
  have h1 := AllP.here h
  dsimp only at hd1 hd2 hnx hw ⊢
  rw [nds_eq] at hd1
  rw [lvs_eq] at hd2
  by_cases hp : t.prod = -1
  ·obtain ⟨a, b, c⟩ := gd_leaf h1 hp
   rw [if_pos hp, c] at hd1 hd2
   simp only [List.flatMap_nil, List.append_nil, List.nil_append, List.cons_append] at hd1 hd2
   obtain ⟨r1, r2, r3⟩ := wordU_at hd2
   have e0 : szT t = 0 + 1 := by rw [szT_eq, c]; rfl
   have hro : rootU g t = (1, t.kind) := by
    unfold rootU
    rw [if_pos ⟨hp, a, b⟩]
   rw [e0, Nat.zero_add, derU, if_neg (by rw [hw]; decide)]
   have hst : stepU g l L ⟨u, r, (D, S)⟩ = .inr ⟨u, r + 1, clU2 (adA (D, S) (wordU L r))⟩ := by
    unfold stepU
    dsimp only
    rw [hnx, hro, if_pos rfl, if_neg (by omega), r2]
    exact if_pos rfl
   rw [hst]
   dsimp only
   have e1 : nds t = [] := by rw [nds_eq, if_pos hp, c]; rfl
   have e2 : lvs t = [tkV t] := by rw [lvs_eq, if_pos hp, c]; rfl
   have e3 : cln t = wordU L r := by
    rw [cln_eq, if_pos hp]
    unfold wordU
    rw [r2]
    rfl
   rw [e1, e2, e3]
   rfl
  ·obtain ⟨a, b, c, d, e⟩ := gd_node h1 hp
   have hks := h1.2 hp
   rw [if_neg hp] at hd1 hd2
   simp only [List.cons_append, List.nil_append] at hd1 hd2
   obtain ⟨u1, u2, u3⟩ := prodU_at hd1
   have hro : rootU g t = (2, lfP g t.prod) := by
    unfold rootU
    rw [if_neg (fun q => hp q.1), if_pos ⟨a, b⟩]
    rfl
   have hst : stepU g l L ⟨u, r, (D, S)⟩ = .inr ⟨u + 1, r, clU2 (D, prodU2 g t.prod :: S)⟩ := by
    unfold stepU
    dsimp only
    rw [hnx, hro, if_neg (by simp), if_neg (by omega), u2]
    exact if_pos rfl
   have ez : n + szT t = (n + szL t.kids) + 1 := by rw [szT_eq]; omega
   rw [ez, derU, if_neg (by rw [hw]; decide), hst]
   dsimp only
   have e1 : (nds t).length = 1 + (t.kids.flatMap nds).length := by rw [nds_eq, if_neg hp, List.length_append, List.length_singleton]
   have e2 : (lvs t).length = (t.kids.flatMap lvs).length := by rw [lvs_eq, if_neg hp, List.nil_append]
   have e3 : cln t = ndT ⟨t.prod, 0, t.kids.map cln⟩ := by rw [cln_eq, if_neg hp]
   rw [clU2_cons]
   by_cases hk0 : t.kids = []
   ·have e4 : (prodU2 g t.prod).ks.length = (prodU2 g t.prod).k := by
     show 0 = (rgP g t.prod).length
     have := e
     rw [hk0] at this
     exact this
    rw [if_pos e4, e1, e2, e3, hk0]
    rfl
   ·have e4 : ¬ (prodU2 g t.prod).ks.length = (prodU2 g t.prod).k := by
     show ¬ 0 = (rgP g t.prod).length
     have h5 : t.kids.length = (rgP g t.prod).length := e
     have := List.length_pos_iff.2 hk0
     omega
    rw [if_neg e4]
    have := sim_kids (g := g) (l := l) (L := L) (p := t.prod) (k := (rgP g t.prod).length) (D := D) (S := S) (n := n) t.kids [] (u + 1) r R1 R2 hk0 (fun k hk => ih k hk (AllP.kid h k hk)) (by rw [<- show t.kids.length = (rgP g t.prod).length from e]; simp) (fun i hi => by
     have q : t.kids.map (rootU g) = rgP g t.prod := hks
     rw [<- q, List.length_nil, Nat.zero_add]
     simp [List.getD, hi]) u3 hd2
    have e5 : (⟨t.prod, (rgP g t.prod).length, []⟩ : FrB) = prodU2 g t.prod := rfl
    rw [<- e5, this, e1, e2, e3, Nat.add_assoc u 1]
    rfl
theorem sz_nl (t : TV) : szT t = (nds t).length + (lvs t).length := by
 induction t using TV.ind with
 | _ t ih =>
  have e : ∀ l : List TV, (∀ k ∈ l, szT k = (nds k).length + (lvs k).length) -> szL l = (l.flatMap nds).length + (l.flatMap lvs).length := fun l => by
   induction l with
   | nil => intro _; rfl
   | cons a l il =>
    intro h
    rw [szL_cons, h a (List.mem_cons_self ..), il fun k hk => h k (List.mem_cons_of_mem _ hk), List.flatMap_cons, List.flatMap_cons, List.length_append, List.length_append]
    omega
  rw [szT_eq, e _ ih, nds_eq, lvs_eq, List.length_append, List.length_append]
  by_cases hp : t.prod = -1
  ·rw [if_pos hp, if_pos hp]; simp; omega
  ·rw [if_neg hp, if_neg hp]; simp; omega
theorem derive_of {g : GV} {t : TV} (h : GdT g t) (hp : ¬ t.prod = -1) : deriveU g (nds t) (lvs t) = (some (cln t), 0, 0) := by
 obtain ⟨a, b, -⟩ := gd_node (AllP.here h) hp
 have hn : nds t = t.prod :: t.kids.flatMap nds := by rw [nds_eq, if_neg hp]; rfl
 have hs := sim_tree t h (nds t) (lvs t) 1 ⟨0, 0, ([], [])⟩ [] [] (by simp) (by simp) (by
  unfold rootU
  rw [if_neg (fun q => hp q.1), if_pos ⟨a, b⟩]
  show (2, (g.ps.getD ((nds t).getD 0 0).toNat .none).left) = _
  rw [hn]
  rfl) rfl
 have ez : (nds t).length + (lvs t).length + 1 = 1 + szT t := by rw [sz_nl]; omega
 have hw : wholeU (clU2 (adA ([], []) (cln t))) = true := rfl
 unfold deriveU
 rw [ez, hs, derU, if_pos hw]
 dsimp only
 rw [if_neg (by omega), if_neg (by omega)]
 rfl
end Go.Proofs.YtobhemaikomdaaaGreatDoor
