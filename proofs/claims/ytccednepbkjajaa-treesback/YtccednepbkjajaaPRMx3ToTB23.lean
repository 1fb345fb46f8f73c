import Derived.Test.YtccednepbkjajaaPTB20ToTB22
import Derived.Test.YtccednepbkjajaaPTD3ToTSm
import Derived.Test.YtccednepbkjajaaPGDec9ToGDec13
namespace Go.Proofs.Ytccednepbkjajaa
set_option linter.unusedVariables false
open Go.RowKit
set_option linter.unusedSimpArgs false in
set_option linter.unusedVariables false in
theorem wpAnyX_mix3 {P : Program} {ops : Array Oper} {Q : Exit -> Act -> World -> Prop} {md : Region.Mode} {S : Array Bool -> World -> Prop} {β1 β2 β3 : Type} {o1 o2 o3 o4 : Oper} {d1 d2 d3 d4 : Nat} {L : Array Bool} {a : Act} {w : World} {fuel : Nat} (j1 j2 j3 j4 : Nat) (h1 : ops.toList[j1]? = some o1) (h2 : ops.toList[j2]? = some o2) (h3 : ops.toList[j3]? = some o3) (h4 : ops.toList[j4]? = some o4)
  (e1 : o1.dst = some d1) (e2 : o2.dst = some d2) (e3 : o3.dst = some d3) (e4 : o4.dst = some d4) (hj : j1 ≠ j2 /\ j1 ≠ j3 /\ j2 ≠ j3 /\ j1 ≠ j4 /\ j2 ≠ j4 /\ j3 ≠ j4) (hd : d1 ≠ d2 /\ d1 ≠ d3 /\ d2 ≠ d3 /\ d1 ≠ d4 /\ d2 ≠ d4 /\ d3 ≠ d4)
  (r0 : Region.ready md ops L = [j1, j4])
  (r4 : Region.ready md ops (L.setIfInBounds j4 true) = [j1])
  (r1 : Region.ready md ops (L.setIfInBounds j1 true) = [j2, j4])
  (r14 : Region.ready md ops ((L.setIfInBounds j1 true).setIfInBounds j4 true) = [j2])
  (r12 : Region.ready md ops ((L.setIfInBounds j1 true).setIfInBounds j2 true) = [j3, j4])
  (r124 : Region.ready md ops (((L.setIfInBounds j1 true).setIfInBounds j2 true).setIfInBounds j4 true) = [j3])
  {J : Nat -> β1 -> β2 -> β3 -> Option Nat -> World -> Prop} (hS : ∀ A x y z b w' L', J A x y z b w' -> S L' w') {f1 : β1 -> Value} {f2 : β2 -> Value} {f3 : β3 -> Value} {f4 : Nat -> Value}
  {At : Act -> Prop} (hAt : At a) (at1 : ∀ a v, At a -> At (a.put (some d1) v)) (at2 : ∀ a v, At a -> At (a.put (some d2) v)) (at3 : ∀ a v, At a -> At (a.put (some d3) v)) (at4 : ∀ a v, At a -> At (a.put (some d4) v))
  (s1 : ∀ (a : Act) (w : World) (K : Act -> World -> Prop) x y z b, At a -> J 0 x y z b w -> (∀ x' w', J 1 x' y z b w' -> K (a.put o1.dst (f1 x')) w') -> if Region.wanted o1 (yielded ops a.tmps) = true then Oper.wp P o1 a w K Q else K (a.put o1.dst undef) w)
  (s2 : ∀ (a : Act) (w : World) (K : Act -> World -> Prop) x y z b, At a -> J 1 x y z b w -> (∀ y' w', J 2 x y' z b w' -> K (a.put o2.dst (f2 y')) w') -> if Region.wanted o2 (yielded ops a.tmps) = true then Oper.wp P o2 a w K Q else K (a.put o2.dst undef) w)
  (s3 : ∀ (a : Act) (w : World) (K : Act -> World -> Prop) x y z b, At a -> a.eval (.tmp d1) = f1 x -> a.eval (.tmp d2) = f2 y -> J 2 x y z b w -> (∀ z' w', J 3 x y z' b w' -> K (a.put o3.dst (f3 z')) w') -> if Region.wanted o3 (yielded ops a.tmps) = true then Oper.wp P o3 a w K Q else K (a.put o3.dst undef) w)
  (s4 : ∀ (a : Act) (w : World) (K : Act -> World -> Prop) A x y z, At a -> J A x y z none w -> (∀ b w', J A x y z (some b) w' -> K (a.put o4.dst (f4 b)) w') -> if Region.wanted o4 (yielded ops a.tmps) = true then Oper.wp P o4 a w K Q else K (a.put o4.dst undef) w)
  (sz : d1 < a.tmps.size /\ d2 < a.tmps.size)
  (x0 : β1) (y0 : β2) (z0 : β3) (hw : J 0 x0 y0 z0 none w)
  (hfin3 : ∀ x y z w', J 3 x y z none w' -> wpAnyX P md ops Q S (fuel + 1) (((L.setIfInBounds j1 true).setIfInBounds j2 true).setIfInBounds j3 true) (((a.put (some d1) (f1 x)).put (some d2) (f2 y)).put (some d3) (f3 z)) w')
  (hfin : ∀ x y z b w', J 3 x y z (some b) w' -> wpAnyX P md ops Q S fuel ((((L.setIfInBounds j1 true).setIfInBounds j2 true).setIfInBounds j3 true).setIfInBounds j4 true) ((((a.put (some d1) (f1 x)).put (some d2) (f2 y)).put (some d3) (f3 z)).put (some d4) (f4 b)) w') :
  wpAnyX P md ops Q S (fuel + 1 + 1 + 1 + 1) L a w := by
 have sc : ∀ {i j : Nat}, i ≠ j -> ∀ (L : Array Bool), (L.setIfInBounds j true).setIfInBounds i true = (L.setIfInBounds i true).setIfInBounds j true := fun h L => Array.setIfInBounds_comm _ _ (Ne.symm h)
 have pc : ∀ {d e : Nat}, d ≠ e -> ∀ (a : Act) (u v : Value), (a.put (some e) u).put (some d) v = (a.put (some d) v).put (some e) u := fun h a u v => by
  simp only [Act.put, Act.mk.injEq, and_true]
  exact Array.setIfInBounds_comm _ _ (Ne.symm h)
 have ev : ∀ {d : Nat} (a : Act) (v : Value), d < a.tmps.size -> (a.put (some d) v).eval (.tmp d) = v := fun a v h => by simp [Act.eval, Act.put, h]
 have en : ∀ {d e : Nat} (a : Act) (v : Value), d ≠ e -> (a.put (some d) v).eval (.tmp e) = a.eval (.tmp e) := fun a v h => by simp [Act.eval, Act.put, h]
 have zp : ∀ (a : Act) (d : Nat) (v : Value), (a.put (some d) v).tmps.size = a.tmps.size := fun a d v => by simp [Act.put]
 obtain ⟨q12, q13, q23, q14, q24, q34⟩ := hj
 obtain ⟨t12, t13, t23, t14, t24, t34⟩ := hd
 have c21 := sc q12
 have p21 := pc t12
 have c31 := sc q13
 have p31 := pc t13
 have c32 := sc q23
 have p32 := pc t23
 have c41 := sc q14
 have p41 := pc t14
 have c42 := sc q24
 have p42 := pc t24
 have c43 := sc q34
 have p43 := pc t34
 refine pickT r0 (by simp) (fun j hj => ?_)
 simp only [List.mem_cons, List.not_mem_nil, or_false] at hj
 rcases hj with hj | hj <;> rw [hj]
 ·refine ⟨o1, h1, fun K' hK => s1 _ w K' x0 y0 z0 none hAt hw fun xv3 wv1 hv2 => hK.out _ _ (hS _ _ _ _ _ _ _ hv2) ?_⟩
  rw [e1]
  refine pickT r1 (by simp) (fun j hj => ?_)
  simp only [List.mem_cons, List.not_mem_nil, or_false] at hj
  rcases hj with hj | hj <;> rw [hj]
  ·refine ⟨o2, h2, fun K' hK => s2 _ wv1 K' xv3 y0 z0 none (at1 _ _ hAt) hv2 fun xv6 wv4 hv5 => hK.out _ _ (hS _ _ _ _ _ _ _ hv5) ?_⟩
   rw [e2]
   (try simp only [c21, c31, c32, c41, c42, c43])
   refine pickT r12 (by simp) (fun j hj => ?_)
   simp only [List.mem_cons, List.not_mem_nil, or_false] at hj
   rcases hj with hj | hj <;> rw [hj]
   ·refine ⟨o3, h3, fun K' hK => s3 _ wv4 K' xv3 xv6 z0 none (at2 _ _ (at1 _ _ hAt)) (by simp [Act.eval, Act.put, sz.1, sz.2, t12, t13, t23, t14, t24, t34, Ne.symm t12, Ne.symm t13, Ne.symm t23, Ne.symm t14, Ne.symm t24, Ne.symm t34]) (by simp [Act.eval, Act.put, sz.1, sz.2, t12, t13, t23, t14, t24, t34, Ne.symm t12, Ne.symm t13, Ne.symm t23, Ne.symm t14, Ne.symm t24, Ne.symm t34]) hv5 fun xv9 wv7 hv8 => hK.out _ _ (hS _ _ _ _ _ _ _ hv8) ?_⟩
    rw [e3]
    have g_ := hfin3 xv3 xv6 xv9 wv7 hv8
    (try simp only [c21, c31, c32, c41, c42, c43, p21, p31, p32, p41, p42, p43])
    exact g_
   ·refine ⟨o4, h4, fun K' hK => s4 _ wv4 K' 2 xv3 xv6 z0 (at2 _ _ (at1 _ _ hAt)) hv5 fun xv12 wv10 hv11 => hK.out _ _ (hS _ _ _ _ _ _ _ hv11) ?_⟩
    rw [e4]
    (try simp only [c21, c31, c32, c41, c42, c43])
    refine pickT r124 (by simp) (fun j hj => ?_)
    simp only [List.mem_cons, List.not_mem_nil, or_false] at hj
    rw [hj]
    refine ⟨o3, h3, fun K' hK => s3 _ wv10 K' xv3 xv6 z0 (some xv12) (at4 _ _ (at2 _ _ (at1 _ _ hAt))) (by simp [Act.eval, Act.put, sz.1, sz.2, t12, t13, t23, t14, t24, t34, Ne.symm t12, Ne.symm t13, Ne.symm t23, Ne.symm t14, Ne.symm t24, Ne.symm t34]) (by simp [Act.eval, Act.put, sz.1, sz.2, t12, t13, t23, t14, t24, t34, Ne.symm t12, Ne.symm t13, Ne.symm t23, Ne.symm t14, Ne.symm t24, Ne.symm t34]) hv11 fun xv15 wv13 hv14 => hK.out _ _ (hS _ _ _ _ _ _ _ hv14) ?_⟩
    rw [e3]
    have g_ := hfin xv3 xv6 xv15 xv12 wv13 hv14
    (try simp only [c21, c31, c32, c41, c42, c43, p21, p31, p32, p41, p42, p43])
    exact g_
  ·refine ⟨o4, h4, fun K' hK => s4 _ wv1 K' 1 xv3 y0 z0 (at1 _ _ hAt) hv2 fun xv18 wv16 hv17 => hK.out _ _ (hS _ _ _ _ _ _ _ hv17) ?_⟩
   rw [e4]
   (try simp only [c21, c31, c32, c41, c42, c43])
   refine pickT r14 (by simp) (fun j hj => ?_)
   simp only [List.mem_cons, List.not_mem_nil, or_false] at hj
   rw [hj]
   refine ⟨o2, h2, fun K' hK => s2 _ wv16 K' xv3 y0 z0 (some xv18) (at4 _ _ (at1 _ _ hAt)) hv17 fun xv21 wv19 hv20 => hK.out _ _ (hS _ _ _ _ _ _ _ hv20) ?_⟩
   rw [e2]
   (try simp only [c21, c31, c32, c41, c42, c43])
   refine pickT r124 (by simp) (fun j hj => ?_)
   simp only [List.mem_cons, List.not_mem_nil, or_false] at hj
   rw [hj]
   refine ⟨o3, h3, fun K' hK => s3 _ wv19 K' xv3 xv21 z0 (some xv18) (at2 _ _ (at4 _ _ (at1 _ _ hAt))) (by simp [Act.eval, Act.put, sz.1, sz.2, t12, t13, t23, t14, t24, t34, Ne.symm t12, Ne.symm t13, Ne.symm t23, Ne.symm t14, Ne.symm t24, Ne.symm t34]) (by simp [Act.eval, Act.put, sz.1, sz.2, t12, t13, t23, t14, t24, t34, Ne.symm t12, Ne.symm t13, Ne.symm t23, Ne.symm t14, Ne.symm t24, Ne.symm t34]) hv20 fun xv24 wv22 hv23 => hK.out _ _ (hS _ _ _ _ _ _ _ hv23) ?_⟩
   rw [e3]
   have g_ := hfin xv3 xv21 xv24 xv18 wv22 hv23
   (try simp only [c21, c31, c32, c41, c42, c43, p21, p31, p32, p41, p42, p43])
   exact g_
 ·refine ⟨o4, h4, fun K' hK => s4 _ w K' 0 x0 y0 z0 hAt hw fun xv27 wv25 hv26 => hK.out _ _ (hS _ _ _ _ _ _ _ hv26) ?_⟩
  rw [e4]
  refine pickT r4 (by simp) (fun j hj => ?_)
  simp only [List.mem_cons, List.not_mem_nil, or_false] at hj
  rw [hj]
  refine ⟨o1, h1, fun K' hK => s1 _ wv25 K' x0 y0 z0 (some xv27) (at4 _ _ hAt) hv26 fun xv30 wv28 hv29 => hK.out _ _ (hS _ _ _ _ _ _ _ hv29) ?_⟩
  rw [e1]
  (try simp only [c21, c31, c32, c41, c42, c43])
  refine pickT r14 (by simp) (fun j hj => ?_)
  simp only [List.mem_cons, List.not_mem_nil, or_false] at hj
  rw [hj]
  refine ⟨o2, h2, fun K' hK => s2 _ wv28 K' xv30 y0 z0 (some xv27) (at1 _ _ (at4 _ _ hAt)) hv29 fun xv33 wv31 hv32 => hK.out _ _ (hS _ _ _ _ _ _ _ hv32) ?_⟩
  rw [e2]
  (try simp only [c21, c31, c32, c41, c42, c43])
  refine pickT r124 (by simp) (fun j hj => ?_)
  simp only [List.mem_cons, List.not_mem_nil, or_false] at hj
  rw [hj]
  refine ⟨o3, h3, fun K' hK => s3 _ wv31 K' xv30 xv33 z0 (some xv27) (at2 _ _ (at1 _ _ (at4 _ _ hAt))) (by simp [Act.eval, Act.put, sz.1, sz.2, t12, t13, t23, t14, t24, t34, Ne.symm t12, Ne.symm t13, Ne.symm t23, Ne.symm t14, Ne.symm t24, Ne.symm t34]) (by simp [Act.eval, Act.put, sz.1, sz.2, t12, t13, t23, t14, t24, t34, Ne.symm t12, Ne.symm t13, Ne.symm t23, Ne.symm t14, Ne.symm t24, Ne.symm t34]) hv32 fun xv36 wv34 hv35 => hK.out _ _ (hS _ _ _ _ _ _ _ hv35) ?_⟩
  rw [e3]
  have g_ := hfin xv30 xv33 xv36 xv27 wv34 hv35
  (try simp only [c21, c31, c32, c41, c42, c43, p21, p31, p32, p41, p42, p43])
  exact g_
theorem core_at {g x : GV} (h : SameG g x) (n : Nat) : (x.ps.getD n .none).left = (g.ps.getD n .none).left /\ (x.ps.getD n .none).right = (g.ps.getD n .none).right := by
 have e : (x.ps.getD n .none).core = (g.ps.getD n .none).core := by
  have e1 : (x.ps.map PV.core)[n]? = (g.ps.map PV.core)[n]? := by rw [h.ps]
  rw [List.getElem?_map, List.getElem?_map] at e1
  simp only [List.getD]
  cases e2 : x.ps[n]? with
  | none =>
   rw [e2] at e1
   cases e3 : g.ps[n]? with
   | none => rfl
   | some y => rw [e3] at e1; cases e1
  | some z =>
   rw [e2] at e1
   cases e3 : g.ps[n]? with
   | none => rw [e3] at e1; cases e1
   | some y =>
    rw [e3] at e1
    simpa using e1
 unfold PV.core at e
 simp only [Prod.mk.injEq] at e
 exact ⟨e.1, e.2.1⟩
def rkU (g : GV) (t : TV) : Int × Int × Int := if rootU g t = (0, 0) then (0, 0, if t.prod = -1 then 82 else 81) else ((rootU g t).1, (rootU g t).2, 0)
theorem check_rev8 (g : GV) (nm : Int × Int) : checkG g.rev nm = checkG g nm := by
 have hg : ∀ i, g.rev.ps.getD i .none = (g.ps.getD i .none).rev := fun i => by
  simp only [GV.rev, List.getD, List.getElem?_map]
  cases g.ps[i]? <;> rfl
 have e1 : prodU g.rev = prodU g := by
  funext i
  have ha : ((g.rev.ps.take i).any fun q => q.left == (g.ps.getD i .none).rev.left && q.right == (g.ps.getD i .none).rev.right) = ((g.ps.take i).any fun q => q.left == (g.ps.getD i .none).left && q.right == (g.ps.getD i .none).right) := by
   show (((g.ps.map PV.rev).take i).any _) = _
   rw [<- List.map_take, List.any_map]
   congr 1
   funext q
   simp only [Function.comp, PV.rev]
   congr 1
   rw [Bool.eq_iff_iff]
   simp
  have hb : ((g.ps.getD i .none).rev.right.any fun s => !inG g.rev s.1 s.2) = ((g.ps.getD i .none).right.any fun s => !inG g s.1 s.2) := by
   show ((g.ps.getD i .none).right.reverse.any fun s => !inG g.rev s.1 s.2) = _
   rw [List.any_reverse]; rfl
  have hc : (g.ps.getD i .none).rev.right.length = (g.ps.getD i .none).right.length := List.length_reverse
  unfold prodU
  rw [hg, ha, hb, hc]
  rfl
 unfold checkG
 rw [e1]
 simp only [GV.rev, List.length_map]
 rfl
theorem MG.gat8 {B : Nat} {w : World} {g : GV} {A H E pb lb tb nb : Nat} (h : MG B w g A H E pb lb tb nb) (ok : OkC g) : GAt 1048576 w g := by
 refine h.at 1048576 (fun s hs => ?_) (fun s hs => ?_) ?_ ?_ ?_ ?_ (fun p hp => ?_) (fun p hp => ?_)
 ·have := ok.ts s hs; unfold maxLen; omega
 ·have := ok.ns s hs; unfold maxLen; omega
 ·have := ok.tl; omega
 ·have := ok.nl; omega
 ·have := ok.pl; omega
 ·have := ok.ll; omega
 ·obtain ⟨i, hi, rfl⟩ := List.getElem_of_mem hp
  have := ok.right i hi
  have e : g.ps.getD i .none = g.ps[i] := by simp [List.getD, hi]
  rw [e] at this; omega
 ·obtain ⟨i, hi, rfl⟩ := List.getElem_of_mem hp
  have := ok.terms i hi
  have e : g.ls.getD i .none = g.ls[i] := by simp [List.getD, hi]
  rw [e] at this; omega
theorem next_gr {g x : GV} (h : SameG g x) (l : List Int) (A : AB) : nextU x l A = nextU g l A := by
 unfold nextU
 split
 ·rw [(core_at h _).1]
 ·rw [(core_at h _).2]
theorem step_gr {g x : GV} (h : SameG g x) (l : List Int) (L : List (Int × ByteArray)) (y : DvU) : stepU x l L y = stepU g l L y := by
 unfold stepU prodU2
 rw [next_gr h, (core_at h _).1, (core_at h _).2]
theorem der_gr {g x : GV} (h : SameG g x) (l : List Int) (L : List (Int × ByteArray)) : ∀ (n : Nat) (y : DvU), derU x l L n y = derU g l L n y
 | 0, _ => rfl
 | n + 1, y => by
  rw [derU, derU, step_gr h]
  split
  ·rfl
  ·cases stepU g l L y with
   | inl f => rfl
   | inr z => exact der_gr h l L n z
theorem derive_gr {g x : GV} (h : SameG g x) (l : List Int) (L : List (Int × ByteArray)) : deriveU x l L = deriveU g l L := by
 unfold deriveU
 rw [der_gr h]
theorem derive_ne {g : GV} {l : List Int} {L : List (Int × ByteArray)} (hl : ∀ n ∈ l, 0 <= n /\ n < g.ps.length) {e1 e2 : Int} (h : deriveU g l L = (none, e1, e2)) : ¬ e1 = 0 := by
 unfold deriveU at h
 cases hd : derU g l L (l.length + L.length + 1) ⟨0, 0, ([], [])⟩ with
 | inl f =>
  rw [hd] at h
  obtain ⟨f1, f2⟩ := f
  dsimp only at h
  cases h
  have : ∀ (n : Nat) (x : DvU), derU g l L n x = .inl (e1, e2) -> ¬ e1 = 0 := fun n => by
   induction n with
   | zero => intro x hx; cases hx
   | succ n ih =>
    intro x hx
    rw [derU] at hx
    split at hx
    ·cases hx
    ·cases hs : stepU g l L x with
     | inl f => rw [hs] at hx; cases hx; exact step_ne hs
     | inr z => rw [hs] at hx; exact ih z hx
  exact this _ _ hd
 | inr y =>
  rw [hd] at h
  dsimp only at h
  obtain ⟨hw, _⟩ := der_ok hl _ _ _ (ok_start g l L) (by dsimp only; omega) hd
  split at h
  ·cases h; decide
  ·split at h
   ·cases h; decide
   ·exfalso
    unfold wholeU at hw
    simp only [Bool.and_eq_true, Bool.not_eq_true', List.isEmpty_eq_false_iff] at hw
    cases hA : y.A.1 with
    | nil => exact hw.2 hA
    | cons t D => rw [hA] at h; cases h
def szF (S : List FrB) : Nat := (S.map fun f => 1 + szL f.ks).sum
def szA (A : AB) : Nat := szL A.1 + szF A.2
theorem szF_cons (f : FrB) (S : List FrB) : szF (f :: S) = 1 + szL f.ks + szF S := by simp [szF]
theorem szT_nd (f : FrB) : szT (ndT f) = 1 + szL f.ks := by
 rw [szT_eq]
 show szL f.ks + 1 = _
 omega
theorem szL_snoc (l : List TV) (t : TV) : szL (l ++ [t]) = szL l + szT t := by
 rw [szL_app, szL_cons]
 have : szL [] = 0 := rfl
 omega
theorem szA_ad (A : AB) (t : TV) : szA (adA A t) = szA A + szT t := by
 obtain ⟨D, S⟩ := A
 cases S with
 | nil =>
  show szL (D ++ [t]) + szF [] = szL D + szF [] + szT t
  rw [szL_snoc]; omega
 | cons f S =>
  show szL D + szF (⟨f.p, f.k, f.ks ++ [t]⟩ :: S) = szL D + szF (f :: S) + szT t
  rw [szF_cons, szF_cons, szL_snoc]; omega
theorem szA_cl : ∀ (S : List FrB) (D : List TV), szA (clU2 (D, S)) = szA (D, S)
 | [], D => by rw [clU2_nil]
 | f :: S, D => by
  rw [clU2_cons]
  by_cases hk : f.ks.length = f.k
  ·rw [if_pos hk]
   have e : szA (adA (D, S) (ndT f)) = szA (D, f :: S) := by
    rw [szA_ad, szT_nd]
    show szL D + szF S + (1 + szL f.ks) = szL D + szF (f :: S)
    rw [szF_cons]; omega
   rw [<- e]
   cases S with
   | nil => exact szA_cl [] _
   | cons g' S => exact szA_cl (⟨g'.p, g'.k, g'.ks ++ [ndT f]⟩ :: S) D
  ·rw [if_neg hk]
termination_by S => S.length
theorem szA_clU (A : AB) : szA (clU2 A) = szA A := szA_cl A.2 A.1
theorem szA_step {g : GV} {l : List Int} {L : List (Int × ByteArray)} {x y : DvU} (h : stepU g l L x = .inr y) : szA y.A + (x.u + x.r) = szA x.A + (y.u + y.r) := by
 unfold stepU at h
 split at h
 ·split at h
  ·cases h
  ·split at h
   ·cases h
    show szA (clU2 (adA x.A (wordU L x.r))) + _ = szA x.A + (x.u + (x.r + 1))
    rw [szA_clU, szA_ad]
    have : szT (wordU L x.r) = 1 := by rw [szT_eq]; rfl
    omega
   ·cases h
 ·split at h
  ·cases h
  ·split at h
   ·cases h
    show szA (clU2 (x.A.1, prodU2 g (l.getD x.u 0) :: x.A.2)) + _ = szA x.A + (x.u + 1 + x.r)
    rw [szA_clU]
    show szL x.A.1 + szF (prodU2 g (l.getD x.u 0) :: x.A.2) + _ = szL x.A.1 + szF x.A.2 + _
    rw [szF_cons]
    have : szL (prodU2 g (l.getD x.u 0)).ks = 0 := rfl
    omega
   ·cases h
theorem szA_der {g : GV} {l : List Int} {L : List (Int × ByteArray)} : ∀ (n : Nat) (x y : DvU), derU g l L n x = .inr y -> szA y.A + (x.u + x.r) = szA x.A + (y.u + y.r)
 | 0, x, y, h => by cases h; rfl
 | n + 1, x, y, h => by
  rw [derU] at h
  split at h
  ·cases h; rfl
  ·cases hs : stepU g l L x with
   | inl f => rw [hs] at h; cases h
   | inr z =>
    rw [hs] at h
    have h1 := szA_step hs
    have h2 := szA_der n z y h
    omega
theorem derive_sz {g : GV} {l : List Int} {L : List (Int × ByteArray)} (hl : ∀ n ∈ l, 0 <= n /\ n < g.ps.length) {t : TV} {e1 e2 : Int} (h : deriveU g l L = (some t, e1, e2)) : szT t <= l.length + L.length := by
 unfold deriveU at h
 cases hd : derU g l L (l.length + L.length + 1) ⟨0, 0, ([], [])⟩ with
 | inl f => rw [hd] at h; cases h
 | inr y =>
  rw [hd] at h
  dsimp only at h
  obtain ⟨hw, ho⟩ := der_ok hl _ _ _ (ok_start g l L) (by dsimp only; omega) hd
  have hz := szA_der _ _ _ hd
  have h1 := ho.ul
  have h2 := ho.rl
  have h0 : szA (([], []) : AB) = 0 := rfl
  dsimp only at hz
  rw [h0] at hz
  split at h
  ·cases h
  ·split at h
   ·cases h
   ·cases hA : y.A.1 with
    | nil => rw [hA] at h; cases h
    | cons t' D =>
     rw [hA] at h
     cases h
     unfold szA at hz
     rw [hA, szL_cons] at hz
     omega
end Go.Proofs.Ytccednepbkjajaa
