import Derived.Test.YtccednepbkjajaaPTB11ToTB12
namespace Go.Proofs.Ytccednepbkjajaa
set_option linter.unusedVariables false
open Go.RowKit
structure DvU where
 u : Nat
 r : Nat
 A : AB
def wholeU (A : AB) : Bool := A.2.isEmpty && !A.1.isEmpty
def nextU (g : GV) (l : List Int) (A : AB) : Int × Int := match A.2 with
 | [] => (2, (g.ps.getD (l.getD 0 0).toNat .none).left)
 | f :: _ => (g.ps.getD f.p.toNat .none).right.getD f.ks.length (0, 0)
def wordU (L : List (Int × ByteArray)) (r : Nat) : TV := lfT (L.getD r (0, ByteArray.empty)).1 (L.getD r (0, ByteArray.empty)).2
def prodU2 (g : GV) (n : Int) : FrB := ⟨n, (g.ps.getD n.toNat .none).right.length, []⟩
def stepU (g : GV) (l : List Int) (L : List (Int × ByteArray)) (x : DvU) : (Int × Int) ⊕ DvU :=
 if (nextU g l x.A).1 = 1 then
  if x.r = L.length then .inl (82, (x.r : Int))
  else if (L.getD x.r (0, ByteArray.empty)).1 = (nextU g l x.A).2 then .inr ⟨x.u, x.r + 1, clU2 (adA x.A (wordU L x.r))⟩
  else .inl (82, (x.r : Int))
 else
  if x.u = l.length then .inl (11, (x.u : Int))
  else if (g.ps.getD (l.getD x.u 0).toNat .none).left = (nextU g l x.A).2 then .inr ⟨x.u + 1, x.r, clU2 (x.A.1, prodU2 g (l.getD x.u 0) :: x.A.2)⟩
  else .inl (81, (x.u : Int))
def OkF (g : GV) (f : FrB) : Prop := 0 <= f.p /\ f.p < g.ps.length /\ f.k = (g.ps.getD f.p.toNat .none).right.length
theorem cl_ok {g : GV} : ∀ (S : List FrB) (D : List TV), (∀ f ∈ S, OkF g f) -> (∀ f ∈ S.tail, f.ks.length < f.k) -> (∀ f ∈ S.head?, f.ks.length <= f.k) -> ∀ f ∈ (clU2 (D, S)).2, OkF g f /\ f.ks.length < f.k
 | [], D, _, _, _ => by
  rw [clU2_nil]
  intro f hf
  cases hf
 | f :: S, D, h1, h2, h3 => by
  rw [clU2_cons]
  by_cases hk : f.ks.length = f.k
  ·rw [if_pos hk]
   cases S with
   | nil => exact cl_ok [] _ (fun _ h => by cases h) (fun _ h => by cases h) (fun _ h => by cases h)
   | cons g' S =>
    refine cl_ok (⟨g'.p, g'.k, g'.ks ++ [ndT f]⟩ :: S) D (fun x hx => ?_) (fun x hx => ?_) (fun x hx => ?_)
    ·rcases List.mem_cons.1 hx with rfl | hx
     ·exact h1 g' (by simp)
     ·exact h1 x (by simp [hx])
    ·exact h2 x (by simp only [List.tail_cons] at hx ⊢; exact List.mem_cons_of_mem _ hx)
    ·simp only [List.head?_cons, Option.mem_def, Option.some.injEq] at hx
     subst hx
     have := h2 g' (by simp)
     simp only [List.length_append, List.length_singleton]
     omega
  ·rw [if_neg hk]
   intro x hx
   refine ⟨h1 x hx, ?_⟩
   rcases List.mem_cons.1 hx with rfl | hx
   ·have := h3 x (by simp)
    omega
   ·exact h2 x hx
termination_by S => S.length
theorem cl_len : ∀ (S : List FrB) (D : List TV), (dlA (clU2 (D, S))).length + (clU2 (D, S)).2.length <= (dlA (D, S)).length + S.length
 | [], D => by rw [clU2_nil]; exact Nat.le_refl _
 | f :: S, D => by
  rw [clU2_cons]
  by_cases hk : f.ks.length = f.k
  ·rw [if_pos hk]
   cases S with
   | nil =>
    have := cl_len [] (D ++ [ndT f])
    have e := dlA_ad D [] (ndT f)
    have e2 := dlA_cons D f []
    have q1 := congrArg List.length e
    have q2 := congrArg List.length e2
    simp only [List.length_append, List.length_cons, List.length_nil] at q1 q2 this ⊢
    show (dlA (clU2 (adA (D, []) (ndT f)))).length + (clU2 (adA (D, []) (ndT f))).2.length <= _
    simp only [adA] at q1 ⊢
    omega
   | cons g' S =>
    have := cl_len (⟨g'.p, g'.k, g'.ks ++ [ndT f]⟩ :: S) D
    have e := dlA_ad D (g' :: S) (ndT f)
    have e2 := dlA_cons D f (g' :: S)
    have q1 := congrArg List.length e
    have q2 := congrArg List.length e2
    simp only [List.length_append, List.length_cons, List.length_nil] at q1 q2 this ⊢
    simp only [adA] at q1 ⊢
    omega
  ·rw [if_neg hk]
   exact Nat.le_refl _
termination_by S => S.length
structure OkD2 (g : GV) (l : List Int) (L : List (Int × ByteArray)) (x : DvU) : Prop where
 ok : ∀ f ∈ x.A.2, OkF g f /\ f.ks.length < f.k
 ul : x.u <= l.length
 rl : x.r <= L.length
 ln : (dlA x.A).length + x.A.2.length <= x.u + x.r
theorem ok_start (g : GV) (l : List Int) (L : List (Int × ByteArray)) : OkD2 g l L ⟨0, 0, ([], [])⟩ := ⟨(fun f hf => by cases hf), Nat.zero_le _, Nat.zero_le _, by simp [dlA, ksL]⟩
theorem ok_step {g : GV} {l : List Int} {L : List (Int × ByteArray)} {x y : DvU} (hl : ∀ n ∈ l, 0 <= n /\ n < g.ps.length) (h : OkD2 g l L x) (hs : stepU g l L x = .inr y) : OkD2 g l L y /\ y.u + y.r = x.u + x.r + 1 := by
 obtain ⟨u, r, D, S⟩ := x
 unfold stepU at hs
 have h1 := h.ok
 have h2 := h.ul
 have h3 := h.rl
 have h4 := h.ln
 dsimp only at h1 h2 h3 h4 hs
 split at hs
 ·split at hs
  ·cases hs
  ·split at hs
   ·rename_i hr _
    simp only [Sum.inr.injEq] at hs
    subst hs
    refine ⟨⟨?_, h2, ?_, ?_⟩, by simp; omega⟩
    ·cases S with
     | nil => exact cl_ok [] _ (fun _ h => by cases h) (fun _ h => by cases h) (fun _ h => by cases h)
     | cons f S =>
      refine cl_ok (⟨f.p, f.k, f.ks ++ [wordU L r]⟩ :: S) D (fun x hx => ?_) (fun x hx => (h1 x (by simp only [List.tail_cons] at hx; exact List.mem_cons_of_mem _ hx)).2) (fun x hx => ?_)
      ·rcases List.mem_cons.1 hx with rfl | hx
       ·exact (h1 f (by simp)).1
       ·exact (h1 x (by simp [hx])).1
      ·simp only [List.head?_cons, Option.mem_def, Option.some.injEq] at hx
       subst hx
       have := (h1 f (by simp)).2
       simp only [List.length_append, List.length_singleton]
       omega
    ·show r + 1 <= L.length
     omega
    ·have e := dlA_ad D S (wordU L r)
     have e2 := adA_len D S (wordU L r)
     have q := congrArg List.length e
     rw [List.length_append, List.length_singleton] at q
     have := cl_len (adA (D, S) (wordU L r)).2 (adA (D, S) (wordU L r)).1
     show _ <= u + (r + 1)
     dsimp only
     have e3 : ((adA (D, S) (wordU L r)).1, (adA (D, S) (wordU L r)).2) = adA (D, S) (wordU L r) := rfl
     rw [e3] at this
     omega
   ·cases hs
 ·split at hs
  ·cases hs
  ·split at hs
   ·rename_i hu _
    simp only [Sum.inr.injEq] at hs
    subst hs
    have hul : u < l.length := by omega
    have hm : l.getD u 0 ∈ l := by
     simp [List.getD, hul]
    refine ⟨⟨?_, ?_, h3, ?_⟩, by simp; omega⟩
    ·refine cl_ok (prodU2 g (l.getD u 0) :: S) D (fun x hx => ?_) (fun x hx => (h1 x hx).2) (fun x hx => ?_)
     ·rcases List.mem_cons.1 hx with rfl | hx
      ·exact ⟨(hl _ hm).1, (hl _ hm).2, rfl⟩
      ·exact (h1 x hx).1
     ·simp only [List.head?_cons, Option.mem_def, Option.some.injEq] at hx
      subst hx
      exact Nat.zero_le _
    ·show u + 1 <= l.length
     omega
    ·have e2 := dlA_cons D (prodU2 g (l.getD u 0)) S
     have q := congrArg List.length e2
     rw [List.length_append] at q
     have q0 : (prodU2 g (l.getD u 0)).ks.length = 0 := rfl
     have := cl_len (prodU2 g (l.getD u 0) :: S) D
     rw [List.length_cons] at this
     show _ <= (u + 1) + r
     dsimp only
     omega
   ·cases hs
section
variable {w0 : World} {N db : Nat} {RF : Nat -> Option Obj} {w : World} {g : GV} {pa wa : Option Addr} {pc wc : Nat} {l : List Int} {L : List (Int × ByteArray)} {x : DvU}
theorem getD_nat {l : List Int} (hl : ∀ n ∈ l, 0 <= n /\ n < g.ps.length) {i : Nat} (hi : i < l.length) : l.getD i 0 = ((l.getD i 0).toNat : Int) /\ (l.getD i 0).toNat < g.ps.length := by
 have hm : l.getD i 0 ∈ l := by simp [List.getD, hi]
 obtain ⟨h1, h2⟩ := hl _ hm
 exact ⟨by omega, by omega⟩
theorem next_W (h : BdS w0 N db 9 (dvO g (.slice pa l.length pc) (.slice wa L.length wc) (x.u : Int) (x.r : Int)) RF x.A w) (ok : OkD2 g l L x) (hne : l ≠ []) (hl : ∀ n ∈ l, 0 <= n /\ n < g.ps.length) (hg : GAt 140737488355328 w g) (hli : InRow w pa l) (hb : l.length <= 400000000) (hB : L.length <= 400000000) : Calls Try.prog 62 #[.pointer (some ⟨db, 0, none⟩)] w fun e w' => e = .returned (.agg #[.int .i64 (nextU g l x.A).1, .int .i64 (nextU g l x.A).2]) /\ Below w.heap.size w w' := by
 obtain ⟨u, r, D, S⟩ := x
 have h1 := ok.ok
 have h2 := ok.ul
 have h3 := ok.rl
 have h4 := ok.ln
 dsimp only at h h1 h2 h3 h4
 cases S with
 | nil =>
  obtain ⟨e1, e2⟩ := getD_nat hl (List.length_pos_iff.2 hne)
  exact next_no h hg hli hne e1 e2
 | cons f S =>
  obtain ⟨⟨o1, o2, o3⟩, o4⟩ := h1 f (by simp)
  exact next_some h (by omega) hg (j := f.p.toNat) (by omega) (by omega) (by omega)
theorem step_W (h : BdS w0 N db 9 (dvO g (.slice pa l.length pc) (.slice wa L.length wc) (x.u : Int) (x.r : Int)) RF x.A w) (ok : OkD2 g l L x) (hne : l ≠ []) (hl : ∀ n ∈ l, 0 <= n /\ n < g.ps.length) (hg : GAt 140737488355328 w g) (hli : InRow w pa l) (hLi : TkRow w wa L) (hb : l.length <= 400000000) (hB : L.length <= 400000000) :
  (∀ e1 at_, stepU g l L x = .inl (e1, at_) -> Calls Try.prog 47 #[.pointer (some ⟨db, 0, none⟩)] w fun e w' => e = .returned (.tuple #[.int .i64 e1, .int .i64 at_]) /\ BdS w0 N db 9 (dvO g (.slice pa l.length pc) (.slice wa L.length wc) (x.u : Int) (x.r : Int)) RF x.A w') /\
  (∀ y, stepU g l L x = .inr y -> Calls Try.prog 47 #[.pointer (some ⟨db, 0, none⟩)] w fun e w' => e = .returned (.tuple #[.int .i64 0, .int .i64 0]) /\ BdS w0 N db 9 (dvO g (.slice pa l.length pc) (.slice wa L.length wc) (y.u : Int) (y.r : Int)) RF y.A w') := by
 have hN := next_W h ok hne hl hg hli hb hB
 have h2 := ok.ul
 have h3 := ok.rl
 have h4 := ok.ln
 unfold stepU
 generalize nextU g l x.A = kn at *
 obtain ⟨k, n⟩ := kn
 dsimp only at hN ⊢
 by_cases hk : k = 1
 ·subst hk
  rw [if_pos rfl]
  by_cases hr : x.r = L.length
  ·rw [if_pos hr]
   refine ⟨fun e1 at_ e => ?_, fun y e => by cases e⟩
   cases e
   exact step_term hN fun w' hb => word_short (h.later hb) hr
  ·rw [if_neg hr]
   have hrl : x.r < L.length := by omega
   by_cases hs : (L.getD x.r (0, ByteArray.empty)).1 = n
   ·rw [if_pos hs]
    refine ⟨(fun e1 at_ e => by cases e), fun y e => ?_⟩
    cases e
    exact step_term hN fun w' hb => word_ok (h.later hb) (hLi.later hb) hrl (by omega) hs (by omega)
   ·rw [if_neg hs]
    refine ⟨fun e1 at_ e => ?_, fun y e => by cases e⟩
    cases e
    exact step_term hN fun w' hb => word_wrong (h.later hb) (hLi.later hb) hrl (by omega) hs
 ·rw [if_neg hk]
  by_cases hu : x.u = l.length
  ·rw [if_pos hu]
   refine ⟨fun e1 at_ e => ?_, fun y e => by cases e⟩
   cases e
   exact step_non hk hN fun w' hb => prod_short (h.later hb) hu
  ·rw [if_neg hu]
   have hul : x.u < l.length := by omega
   obtain ⟨q1, q2⟩ := getD_nat hl hul
   by_cases hs : (g.ps.getD (l.getD x.u 0).toNat .none).left = n
   ·rw [if_pos hs]
    refine ⟨(fun e1 at_ e => by cases e), fun y e => ?_⟩
    cases e
    refine step_non hk hN fun w' hb => ?_
    have := prod_ok (h.later hb) (hg.later hb) (hli.later hb) hul (by omega) q1 q2 hs (by omega)
    rw [<- q1] at this
    exact this
   ·rw [if_neg hs]
    refine ⟨fun e1 at_ e => ?_, fun y e => by cases e⟩
    cases e
    exact step_non hk hN fun w' hb => prod_wrong (h.later hb) (hg.later hb) (hli.later hb) hul (by omega) q1 q2 hs
end
def derU (g : GV) (l : List Int) (L : List (Int × ByteArray)) : Nat -> DvU -> (Int × Int) ⊕ DvU
 | 0, x => .inr x
 | n + 1, x => if wholeU x.A = true then .inr x else match stepU g l L x with
  | .inl f => .inl f
  | .inr y => derU g l L n y
theorem der_ok {g : GV} {l : List Int} {L : List (Int × ByteArray)} (hl : ∀ n ∈ l, 0 <= n /\ n < g.ps.length) : ∀ (n : Nat) (x y : DvU), OkD2 g l L x -> l.length + L.length < n + (x.u + x.r) -> derU g l L n x = .inr y -> wholeU y.A = true /\ OkD2 g l L y
 | 0, x, y, h, hn, _ => by
  have h2 := h.ul
  have h3 := h.rl
  omega
 | n + 1, x, y, h, hn, hd => by
  rw [derU] at hd
  by_cases hw : wholeU x.A = true
  ·rw [if_pos hw] at hd
   cases hd
   exact ⟨hw, h⟩
  ·rw [if_neg hw] at hd
   cases hs : stepU g l L x with
   | inl f => rw [hs] at hd; cases hd
   | inr z =>
    rw [hs] at hd
    obtain ⟨k1, k2⟩ := ok_step hl h hs
    exact der_ok hl n z y k1 (by omega) hd
def deriveU (g : GV) (l : List Int) (L : List (Int × ByteArray)) : Option TV × Int × Int := match derU g l L (l.length + L.length + 1) ⟨0, 0, ([], [])⟩ with
 | .inl f => (none, f.1, f.2)
 | .inr y => if y.u < l.length then (none, 81, (y.u : Int)) else if y.r < L.length then (none, 12, (y.r : Int)) else (y.A.1.head?, 0, 0)
abbrev dvBox (g : GV) (pl wl : Value) : Obj := .cells #[.slice g.ta g.ts.length g.tc, .slice g.na g.ns.length g.nc, .int .i64 g.start, .slice g.pa g.ps.length g.pc, .slice g.la g.ls.length g.lc, pl, wl, .int .i64 0, .int .i64 0, .slice none 0 0, .slice none 0 0] 85
theorem bds_start {w0 w : World} {N db : Nat} {g : GV} {pl wl : Value} {RF : Nat -> Option Obj} (hB : Below N w0 w) (hN : N <= db) (hb : w.heap[db]? = some (dvBox g pl wl)) (hR : ∀ j o, RF j = some o -> w.heap[j]? = some o /\ j ≠ db) : BdS w0 N db 9 (dvO g pl wl 0 0) RF ([], []) w := by
 refine ⟨.slice none 0 0, .slice none 0 0, ([], []), ⟨⟨rfl, fun i hi => absurd hi (by simp)⟩, trivial⟩, ?_⟩
 refine ⟨hB, Nat.le_trans hN (Nat.le_of_lt (lt_of_block hb)), ⟨_, _, hb, by decide, by decide, rfl, rfl⟩, hN, fun o h1 h2 => ?_, fun j o hj => ⟨(hR j o hj).1, (hR j o hj).2, (fun e => by cases e), (fun e => by cases e)⟩, RO.nil w, RO.nil w, (fun j e => by cases e), (fun j e => by cases e), (fun t ht => by cases ht), (fun a ha => by cases ha), fun a => by simp [dlA, ksL, inR]⟩
 rw [cellq_any hb]
 unfold dvO
 rcases o with _ | _ | _ | _ | _ | _ | _ | _ | _ | _ | _ | o
 all_goals first | rfl | (exfalso; omega) | simp
theorem BdS.bel {w0 : World} {N bb bo : Nat} {OC : Nat -> Option Value} {RF : Nat -> Option Obj} {A : AB} {w : World} (h : BdS w0 N bb bo OC RF A w) : Below N w0 w := by
 obtain ⟨a, b, c, d, e⟩ := h
 exact e.bel
theorem BdS.rf {w0 : World} {N bb bo : Nat} {OC : Nat -> Option Value} {RF : Nat -> Option Obj} {A : AB} {w : World} (h : BdS w0 N bb bo OC RF A w) {j : Nat} {o : Obj} (hj : RF j = some o) : w.heap[j]? = some o := by
 obtain ⟨a, b, c, d, e⟩ := h
 exact (e.rf j o hj).1
theorem whole_W {w0 : World} {N bb bo : Nat} {OC : Nat -> Option Value} {RF : Nat -> Option Obj} {A : AB} {w : World} (h : BdS w0 N bb bo OC RF A w) : Calls Try.prog 46 #[.pointer (some ⟨bb, bo, none⟩)] w fun e w' => e = .returned (.bool (wholeU A)) /\ w' = w := by
 obtain ⟨vo, vd, ⟨E, T⟩, ⟨h1, h2⟩, hM⟩ := h
 obtain ⟨D, S⟩ := A
 have := whole_B hM
 have e : decide (nlA (E, T) = [] /\ dlA (E, T) ≠ []) = wholeU (D, S) := by
  cases S with
  | nil =>
   cases T with
   | cons g T => exact h2.elim
   | nil =>
    have hl := h1.1
    dsimp only at hl
    have e1 : nlA (E, []) = [] := rfl
    have e2 : dlA (E, []) = E := by simp [dlA, ksL]
    rw [e1, e2]
    cases E with
    | nil => cases D with
     | nil => rfl
     | cons t D => simp at hl
    | cons t E => cases D with
     | nil => simp at hl
     | cons t D => simp [wholeU]
  | cons f S =>
   cases T with
   | nil => exact h2.elim
   | cons g T => rw [nlA_cons]; simp [wholeU]
 rw [e] at this
 exact this
end Go.Proofs.Ytccednepbkjajaa
