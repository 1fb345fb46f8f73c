import Derived.Test.YtfgdpmcpjpceoaaPFThreeToFChk8
import Derived.Test.YtfgdpmcpjpceoaaPGCheckPToGSame2
namespace Go.Proofs.Ytfgdpmcpjpceoaa
set_option linter.unusedVariables false
set_option maxRecDepth 100000
set_option maxHeartbeats 16000000
open Go.RowKit
def LeS (a b : BS) : Prop := ∀ n, n < 128 -> hasS a n = true -> hasS b n = true
theorem LeS.refl (a : BS) : LeS a a := fun _ _ h => h
theorem LeS.trans {a b c : BS} (h : LeS a b) (h' : LeS b c) : LeS a c := fun n hn q => h' n hn (h n hn q)
theorem leS_with {a b c : BS} (h : LeS a c) (h' : LeS b c) : LeS (withS a b) c := fun n hn q => by
 rw [hasS_with, Bool.or_eq_true] at q
 exact q.elim (h n hn) (h' n hn)
theorem leS_left (a b : BS) : LeS a (withS a b) := fun n _ q => by rw [hasS_with, q]; rfl
theorem leS_right (a b : BS) : LeS b (withS a b) := fun n _ q => by rw [hasS_with, q]; simp
theorem ahead_mono {N N' : List Bool} {F G : List BS} (hN : ∀ i, N.getD i false = true -> N'.getD i false = true) (hF : ∀ i, LeS (F.getD i (0, 0)) (G.getD i (0, 0))) (s : Int × Int) {a b : BS} (h : LeS a b) : LeS (aheadS N F s a) (aheadS N' G s b) := by
 unfold aheadS
 by_cases h1 : s.1 = 1
 ·rw [if_pos h1, if_pos h1]; exact LeS.refl _
 ·rw [if_neg h1, if_neg h1]
  by_cases h2 : N.getD s.2.toNat false = true
  ·rw [if_pos h2, if_pos (hN _ h2)]
   exact leS_with (h.trans (leS_left _ _)) ((hF _).trans (leS_right _ _))
  ·rw [if_neg h2]
   split
   ·exact (hF _).trans (leS_right _ _)
   ·exact hF _
theorem of_mono {N N' : List Bool} {F G : List BS} (hN : ∀ i, N.getD i false = true -> N'.getD i false = true) (hF : ∀ i, LeS (F.getD i (0, 0)) (G.getD i (0, 0))) {a b : BS} (h : LeS a b) : ∀ l : List (Int × Int), LeS (ofS N F l a) (ofS N' G l b)
 | [] => h
 | s :: l => ahead_mono hN hF s (of_mono hN hF h l)
def ClosF (N : List Bool) (ps : List PV) (F : List BS) : Prop := ∀ p ∈ ps, LeS (ofS N F p.right (0, 0)) (F.getD p.left.toNat (0, 0))
theorem step_in {N N' : List Bool} {F G : List BS} (hN : ∀ i, N.getD i false = true -> N'.getD i false = true) (hF : ∀ i, LeS (F.getD i (0, 0)) (G.getD i (0, 0))) {p : PV} (hp : LeS (ofS N' G p.right (0, 0)) (G.getD p.left.toNat (0, 0))) : ∀ i, LeS ((rStep N F p).getD i (0, 0)) (G.getD i (0, 0)) := fun i => by
 unfold rStep
 rw [getD_setS]
 split
 ·rename_i h
  rw [<- h.1]
  exact leS_with (hF _) ((of_mono hN hF (LeS.refl _) _).trans hp)
 ·exact hF i
theorem fold_in {N N' : List Bool} {G : List BS} (hN : ∀ i, N.getD i false = true -> N'.getD i false = true) : ∀ (ps : List PV) (F : List BS), ClosF N' ps G -> (∀ i, LeS (F.getD i (0, 0)) (G.getD i (0, 0))) -> ∀ i, LeS ((ps.foldl (rStep N) F).getD i (0, 0)) (G.getD i (0, 0))
 | [], _, _, h => h
 | p :: ps, F, hc, h => fold_in hN ps _ (fun q hq => hc q (List.mem_cons_of_mem _ hq)) (step_in hN h (hc p (List.mem_cons_self ..)))
theorem iter_in {N N' : List Bool} {ps : List PV} {F G : List BS} (hN : ∀ i, N.getD i false = true -> N'.getD i false = true) (hc : ClosF N' ps G) (h : ∀ i, LeS (F.getD i (0, 0)) (G.getD i (0, 0))) : ∀ k i, LeS ((iterS N ps F k).getD i (0, 0)) (G.getD i (0, 0))
 | 0 => h
 | k + 1 => fold_in hN ps _ hc (iter_in hN hc h k)
theorem rep_zero (n i : Nat) : (List.replicate n ((0, 0) : BS)).getD i (0, 0) = (0, 0) := by simp [List.getD, List.getElem?_replicate]; split <;> rfl
theorem LeastF.within {g : GV} {F G : List BS} {N' : List Bool} (h : LeastF g F) (hN : ∀ i, (nullU g.ps g.ns.length).getD i false = true -> N'.getD i false = true) (hc : ClosF N' g.ps G) : ∀ i, LeS (F.getD i (0, 0)) (G.getD i (0, 0)) := by
 obtain ⟨k, rfl, _⟩ := h
 exact iter_in hN hc (fun i n hn q => by rw [rep_zero, hasS_zero] at q; cases q) k
theorem LeF.antisymm {F G : List BS} (h : LeF F G) (h' : LeF G F) : F = G := by
 apply List.ext_getElem h.1.symm
 intro i h1 h2
 have a := h.2 i
 have b := h'.2 i
 simp only [List.getD, List.getElem?_eq_getElem h1, List.getElem?_eq_getElem h2, Option.getD_some] at a b
 exact Prod.ext (by omega) (by omega)
theorem fold_fix (N : List Bool) : ∀ (ps : List PV) (F : List BS), ps.foldl (rStep N) F = F -> ∀ p ∈ ps, rStep N F p = F
 | [], _, _, p, hp => absurd hp (List.not_mem_nil)
 | q :: ps, F, h, p, hp => by
  rw [List.foldl_cons] at h
  have e : rStep N F q = F := LeF.antisymm (by have := rFold_le N ps (rStep N F q); rwa [h] at this) (rStep_le N F q)
  rw [e] at h
  rcases List.mem_cons.1 hp with rfl | hp
  ·exact e
  ·exact fold_fix N ps F h p hp
theorem fix_closed {N : List Bool} {ps : List PV} {F : List BS} (h : roundS N ps F = F) (hl : ∀ p ∈ ps, p.left.toNat < F.length) : ClosF N ps F := fun p hp => by
 have e := fold_fix N ps F h p hp
 have e2 : (rStep N F p).getD p.left.toNat (0, 0) = F.getD p.left.toNat (0, 0) := by rw [e]
 unfold rStep at e2
 rw [getD_setS, if_pos ⟨rfl, hl p hp⟩] at e2
 have := leS_right (F.getD p.left.toNat (0, 0)) (ofS N F p.right (0, 0))
 rwa [e2] at this
theorem of_all {N : List Bool} {F : List BS} {R : Nat -> Prop} (hF : ∀ i n, n < 128 -> hasS (F.getD i (0, 0)) n = true -> R n) {look : BS} (hk : ∀ n, n < 128 -> hasS look n = true -> R n) : ∀ l : List (Int × Int), (∀ s ∈ l, s.1 = 1 -> 0 <= s.2 /\ s.2 < 128 /\ R s.2.toNat) -> ∀ n, n < 128 -> hasS (ofS N F l look) n = true -> R n
 | [], _ => hk
 | s :: l, hs => fun n hn q => by
  have ih := of_all (N := N) hF hk l (fun t ht => hs t (List.mem_cons_of_mem _ ht))
  have e : ofS N F (s :: l) look = aheadS N F s (ofS N F l look) := rfl
  rw [e] at q
  unfold aheadS at q
  by_cases h1 : s.1 = 1
  ·rw [if_pos h1] at q
   obtain ⟨a0, a1, a2⟩ := hs s (List.mem_cons_self ..) h1
   have := (setS_has (l := [s.2]) (fun x hx => by simp at hx; omega) n hn).1 q
   simp at this
   rw [show n = s.2.toNat by omega]; exact a2
  ·rw [if_neg h1] at q
   split at q
   ·rw [hasS_with, Bool.or_eq_true] at q
    exact q.elim (ih n hn) (hF _ n hn)
   ·exact hF _ n hn q
theorem fold_all {N : List Bool} {R : Nat -> Prop} : ∀ (ps : List PV) (F : List BS), (∀ p ∈ ps, ∀ s ∈ p.right, s.1 = 1 -> 0 <= s.2 /\ s.2 < 128 /\ R s.2.toNat) -> (∀ i n, n < 128 -> hasS (F.getD i (0, 0)) n = true -> R n) -> ∀ i n, n < 128 -> hasS ((ps.foldl (rStep N) F).getD i (0, 0)) n = true -> R n
 | [], _, _, h => h
 | p :: ps, F, hp, h => fold_all ps _ (fun q hq => hp q (List.mem_cons_of_mem _ hq)) (fun i n hn q => by
   unfold rStep at q
   rw [getD_setS] at q
   split at q
   ·rw [hasS_with, Bool.or_eq_true] at q
    exact q.elim (h _ n hn) (of_all h (fun n _ q => by rw [hasS_zero] at q; cases q) p.right (hp p (List.mem_cons_self ..)) n hn)
   ·exact h i n hn q)
theorem iter_all {N : List Bool} {ps : List PV} {R : Nat -> Prop} (m : Nat) (hp : ∀ p ∈ ps, ∀ s ∈ p.right, s.1 = 1 -> 0 <= s.2 /\ s.2 < 128 /\ R s.2.toNat) : ∀ k i n, n < 128 -> hasS ((iterS N ps (List.replicate m (0, 0)) k).getD i (0, 0)) n = true -> R n
 | 0 => fun i n hn q => by have e : iterS N ps (List.replicate m (0, 0)) 0 = List.replicate m (0, 0) := rfl; rw [e, rep_zero, hasS_zero] at q; cases q
 | k + 1 => fold_all ps _ hp (iter_all m hp k)
theorem set_list {s : BS} (h : OkS s) : setS (listS s 128) = s := by
 have hb : ∀ x ∈ listS s 128, 0 <= x /\ x < 128 := fun x hx => by have := (listS_mem s 128 x).1 hx; omega
 refine setS_ext (setS_ok hb) h (fun n hn => ?_)
 have h1 := setS_has hb n hn
 rw [listS_mem] at h1
 rw [Bool.eq_iff_iff, h1]
 simp
 omega
theorem sets_lists {F : List BS} (h : ∀ i, OkS (F.getD i (0, 0))) : (listsU F).map setS = F := by
 unfold listsU
 rw [List.map_map]
 apply List.ext_getElem (by simp)
 intro i h1 h2
 have := h i
 rw [show F.getD i (0, 0) = F[i] by simp [List.getD, h2]] at this
 simpa using set_list this
theorem rise_list (s : BS) (n : Nat) : riseF (listS s n) = true := by
 refine decide_eq_true (fun i hi => ?_)
 have := List.pairwise_iff_getElem.1 (listS_rises s n) i (i + 1) (by omega) (by omega) (by omega)
 simpa [List.getD, show i < (listS s n).length by omega, show i + 1 < (listS s n).length by omega] using this
structure GP (g : GV) : Prop where
 left : ∀ p ∈ g.ps, 0 <= p.left /\ p.left < g.ns.length
 sym : ∀ p ∈ g.ps, ∀ s ∈ p.right, (s.1 = 1 /\ 0 <= s.2 /\ s.2 < g.ts.length) ∨ (s.1 = 2 /\ 0 <= s.2 /\ s.2 < g.ns.length)
 tl : g.ts.length <= 64
theorem FG.gp {w : World} {g : GV} (h : FG w g) : GP g := ⟨h.left, h.sym, h.tl.2⟩
theorem GP.symIn {g : GV} (h : GP g) {N : List Bool} (hN : N.length = g.ns.length) : ∀ p ∈ g.ps, ∀ s ∈ p.right, SymIn N.length s := fun p hp s hs => by
 have := h.tl
 rcases h.sym p hp s hs with q | q
 ·exact .inl ⟨q.1, q.2.1, by omega⟩
 ·exact .inr ⟨q.1, q.2.1, by omega⟩
theorem psD {g : GV} {j : Nat} (hj : j < g.ps.length) : g.ps.getD j .none ∈ g.ps := by simp [List.getD, hj]
theorem LeastF.closed {g : GV} {F : List BS} (hg : GP g) (h : LeastF g F) : ClosF (nullU g.ps g.ns.length) g.ps F := by
 obtain ⟨k, _, h2, _, h4⟩ := h
 exact fix_closed h2 (fun p hp => by have := hg.left p hp; omega)
theorem LeastF.below {g : GV} {F : List BS} (hg : GP g) (h : LeastF g F) : ∀ i n, n < 128 -> hasS (F.getD i (0, 0)) n = true -> n < g.ts.length := by
 obtain ⟨k, rfl, _⟩ := h
 refine iter_all _ (fun p hp s hs e => ?_) k
 have := hg.tl
 rcases hg.sym p hp s hs with q | q <;> omega
theorem LeastF.chk {g : GV} {F : List BS} (hg : GP g) (h : LeastF g F) : chkF (nullU g.ps g.ns.length) (listsU F) g.ps g.ts.length = (0, 0) := by
 have hok : ∀ i, OkS (F.getD i (0, 0)) := by obtain ⟨k, _, _, h3, _⟩ := h; exact h3
 have hlen : (listsU F).length = F.length := by simp [listsU]
 have e1 : firstO (badL (listsU F) g.ts.length) (listsU F).length = none := firstO_none (fun j hj => by
  rw [hlen] at hj
  have e : (listsU F).getD j [] = listS (F.getD j (0, 0)) 128 := by simp [listsU, List.getD, hj]
  unfold badL
  rw [e, rise_list]
  have : allB (listS (F.getD j (0, 0)) 128) g.ts.length = true := List.all_eq_true.2 (fun x hx => by
   have q := (listS_mem _ 128 x).1 hx
   have := h.below hg j x.toNat (by omega) q.2.2
   simp [below1]
   omega)
  rw [this]
  rfl)
 have e2 : firstO (badP (nullU g.ps g.ns.length) ((listsU F).map setS) g.ps) g.ps.length = none := firstO_none (fun j hj => by
  rw [sets_lists hok]
  have hm := psD hj
  have hc := h.closed hg _ hm
  unfold badP
  have : withS (ofS (nullU g.ps g.ns.length) F (g.ps.getD j .none).right (0, 0)) (F.getD (g.ps.getD j .none).left.toNat (0, 0)) = F.getD (g.ps.getD j .none).left.toNat (0, 0) := (within_iff (ofS_ok hok _ _ (hg.symIn (nullU_len _ _) _ hm) OkS.zero) (hok _)).2 hc
  rw [decide_eq_true this]
  rfl)
 rw [chkF, e1, e2]
theorem nullU_iff {g : GV} (i : Nat) : (nullU g.ps g.ns.length).getD i false = true ↔ (htU g.ps g.ns.length g.ns.length).getD i 0 ≠ 0 := by
 by_cases hi : i < g.ns.length
 ·rw [nullU_get _ _ _ hi]
  have := (htU_bd g.ps g.ns.length g.ns.length i).1
  rw [decide_eq_true_eq]
  omega
 ·have a : (nullU g.ps g.ns.length).getD i false = false := by simp [List.getD, List.getElem?_eq_none (show (nullU g.ps g.ns.length).length <= i by rw [nullU_len]; omega)]
  have b : (htU g.ps g.ns.length g.ns.length).getD i 0 = 0 := by simp [List.getD, List.getElem?_eq_none (show (htU g.ps g.ns.length g.ns.length).length <= i by rw [htU_len]; omega)]
  rw [a, b]; simp
theorem firstV_zero {v : PV -> Bool} {er : Int} (he : er ≠ 0) {ps : List PV} : ∀ k, k <= ps.length -> (firstV v er ps k).1 = 0 -> ∀ j, ps.length - k <= j -> j < ps.length -> v (ps.getD j .none) = false
 | 0, _, _, j, h1, h2 => by omega
 | k + 1, hk, h, j, h1, h2 => by
  rw [firstV] at h
  split at h
  ·exact absurd h he
  ·rename_i hv
   by_cases e : j = ps.length - (k + 1)
   ·rw [e]; simpa using hv
   ·exact firstV_zero he k (by omega) h j (by omega) h2
theorem null_least {g : GV} {N : List Bool} (h : (chkN N g.ps).1 = 0) : ∀ i, (nullU g.ps g.ns.length).getD i false = true -> N.getD i false = true := fun i hi => by
 have hv := firstV_zero (v := violN N) (er := 61) (by decide) g.ps.length (Nat.le_refl _) h
 refine htU_least g.ps g.ns.length (fun i => N.getD i false = true) (fun p hp hr => ?_) g.ns.length i ((nullU_iff i).1 hi)
 obtain ⟨j, hj, rfl⟩ := List.getElem_of_mem hp
 have := hv j (by omega) hj
 rw [show g.ps.getD j .none = g.ps[j] by simp [List.getD, hj]] at this
 unfold violN at this
 have ha : allN N g.ps[j].right = true := List.all_eq_true.2 (fun s hs => by
  have := hr s hs
  simp only [null1, Bool.and_eq_true, decide_eq_true_eq]
  exact this)
 rw [ha] at this
 simpa using this
theorem chkF_zero {g : GV} (hg : GP g) {N : List Bool} {L : List (List Int)} (hN : N.length = g.ns.length) (h : (chkF N L g.ps g.ts.length).1 = 0) : ClosF N g.ps (L.map setS) /\ ∀ l ∈ L, ∀ x ∈ l, 0 <= x /\ x < g.ts.length := by
 have z1 : firstO (badL L g.ts.length) L.length = none := by
  cases e : firstO (badL L g.ts.length) L.length with
  | none => rfl
  | some x =>
   exfalso
   rw [chkF, e] at h
   have : ∀ n, firstO (badL L g.ts.length) n = some x -> x.1 ≠ 0 := fun n => by
    induction n with
    | zero => intro q; cases q
    | succ n ih =>
     intro q
     rw [firstO] at q
     cases e2 : firstO (badL L g.ts.length) n with
     | some y => rw [e2] at q; simp only [Option.some.injEq] at q; subst q; exact ih e2
     | none =>
      rw [e2] at q
      simp only [badL] at q
      split at q
      ·cases q; simp
      ·split at q
       ·cases q; simp
       ·cases q
   exact this _ e h
 have z2 : firstO (badP N (L.map setS) g.ps) g.ps.length = none := by
  cases e : firstO (badP N (L.map setS) g.ps) g.ps.length with
  | none => rfl
  | some x =>
   exfalso
   rw [chkF, z1, e] at h
   have : ∀ n, firstO (badP N (L.map setS) g.ps) n = some x -> x.1 ≠ 0 := fun n => by
    induction n with
    | zero => intro q; cases q
    | succ n ih =>
     intro q
     rw [firstO] at q
     cases e2 : firstO (badP N (L.map setS) g.ps) n with
     | some y => rw [e2] at q; simp only [Option.some.injEq] at q; subst q; exact ih e2
     | none =>
      rw [e2] at q
      simp only [badP] at q
      split at q
      ·cases q; simp
      ·cases q
   exact this _ e h
 have hr : ∀ l ∈ L, ∀ x ∈ l, 0 <= x /\ x < g.ts.length := fun l hl x hx => by
  obtain ⟨i, hi, rfl⟩ := List.getElem_of_mem hl
  have := firstO_inv z1 i hi
  unfold badL at this
  rw [show L.getD i [] = L[i] by simp [List.getD, hi]] at this
  by_cases q : allB L[i] g.ts.length = false
  ·rw [if_pos q] at this; cases this
  ·have := List.all_eq_true.1 (show allB L[i] g.ts.length = true by simpa using q) x hx
   simpa [below1] using this
 have hok : ∀ i, OkS ((L.map setS).getD i (0, 0)) := fun i => by
  have h64 := hg.tl
  by_cases hi : i < L.length
  ·rw [show (L.map setS).getD i (0, 0) = setS L[i] by simp [List.getD, hi]]
   exact setS_ok (fun x hx => by have := hr _ (List.getElem_mem hi) x hx; omega)
  ·rw [show (L.map setS).getD i (0, 0) = (0, 0) by simp [List.getD, show L.length <= i by omega]]
   exact OkS.zero
 refine ⟨fun p hp => ?_, hr⟩
 obtain ⟨j, hj, rfl⟩ := List.getElem_of_mem hp
 have := firstO_inv z2 j hj
 unfold badP at this
 rw [show g.ps.getD j .none = g.ps[j] by simp [List.getD, hj]] at this
 split at this
 ·cases this
 ·rename_i q
  exact (within_iff (ofS_ok hok _ _ (hg.symIn hN _ hp) OkS.zero) (hok _)).1 (by simpa using q)
theorem least_part {g : GV} {F : List BS} (hg : GP g) (h : LeastF g F) {N : List Bool} {L : List (List Int)} (hN : N.length = g.ns.length) (h1 : (chkN N g.ps).1 = 0) (h2 : (chkF N L g.ps g.ts.length).1 = 0) (hL : L.length = g.ns.length) : ∀ k, k < g.ns.length -> ∀ x ∈ (listsU F).getD k [], x ∈ L.getD k [] := fun k hk x hx => by
 obtain ⟨hc, hr⟩ := chkF_zero hg hN h2
 have hFl : F.length = g.ns.length := by obtain ⟨_, _, _, _, e⟩ := h; exact e
 rw [show (listsU F).getD k [] = listS (F.getD k (0, 0)) 128 by simp [listsU, List.getD, show k < F.length by omega]] at hx
 have q := (listS_mem _ 128 x).1 hx
 have := h.within (null_least h1) hc k x.toNat (by omega) q.2.2
 rw [show (L.map setS).getD k (0, 0) = setS (L.getD k []) by simp [List.getD, show k < L.length by omega]] at this
 have hm : L.getD k [] ∈ L := by simp [List.getD, show k < L.length by omega]
 have h64 := hg.tl
 have := (setS_has (fun x hx => by have := hr _ hm x hx; omega) x.toNat (by omega)).1 this
 rwa [show ((x.toNat : Nat) : Int) = x by omega] at this
def inL (l : List Int) (x : Int) : Bool := l.any (fun y => decide (y = x))
theorem in_S (la : Option Addr) (lc : Nat) (l : List Int) (x : Int) (w : World) (hl : InRow w la l) (hll : l.length <= 140737488355328) :
  Calls Try.prog 15 #[.slice la l.length lc, .int .i64 x] w fun en w' => en = .returned (.bool (inL l x)) /\ Below w.heap.size w w' := by
 have HL : Hid (InRow w la l) := hl
 have HF : Hid (∀ k, k < l.length -> l.getD k 0 = x -> inL l x = true) := fun k hk h => List.any_eq_true.2 ⟨l.getD k 0, by simp [List.getD, hk], decide_eq_true h⟩
 have HY : Hid ((∀ k, k < l.length -> l.getD k 0 ≠ x) -> inL l x = false) := fun h => by
  rw [Bool.eq_false_iff]
  intro q
  obtain ⟨y, hy, e⟩ := List.any_eq_true.1 q
  obtain ⟨i, hi, rfl⟩ := List.getElem_of_mem hy
  exact h i hi (by simpa [List.getD, hi] using e)
 clear hl
 generalize hX : inL l x = X at *
 clear hX
 go_enter Try.func15, Try.ntmps15
 go_wp2
 go_loopw [5] (fun z wr => ∃ k : Nat, k <= l.length /\ z = .int .i64 k /\ wr = w /\ (∀ j, j < k -> l.getD j 0 ≠ x)) (fun z _ => l.length - (intOf z).toNat)
 case atStart => exact ⟨0, Nat.zero_le _, rfl, rfl, fun j hj => absurd hj (Nat.not_lt_zero j)⟩
 case round =>
  obtain ⟨k, hk, rfl, rfl, hf⟩ := hrel
  by_cases hlt : k < l.length
  ·obtain ⟨b, o, rfl, hbl, hc⟩ := HL.out (by intro e; rw [e] at hlt; simp at hlt)
   have c0 := hc k hlt
   have klt : (k : Int) < (l.length : Int) := by omega
   have HN : Hid (l.getD k 0 = x -> X = true) := HF.out k hlt
   have HS : Hid (∀ y, l.getD k 0 = y -> y ≠ x -> ∀ j, j < k + 1 -> l.getD j 0 ≠ x) := fun y hy h j hj => by
    by_cases q : j = k
    ·subst q; rw [hy]; exact h
    ·exact hf j (by omega)
   generalize hx : l.getD k 0 = y at *
   by_cases h1 : y = x
   ·have R : Hid (X = true) := HN.out h1
    have t1 : (y == x) = true := by simpa using h1
    clear hc hf hx h1
    go_wp2
    go_ret
    exact ⟨by rw [R.out]; rfl, Below.refl _ _⟩
   ·have R : Hid (∀ j, j < k + 1 -> l.getD j 0 ≠ x) := HS.out y rfl h1
    have t1 : (y == x) = false := by simpa using h1
    clear hc hf hx h1
    go_wp2
    go_roundw
    case rel => exact ⟨k + 1, by omega, by go_num, by first | rfl | trivial, R.out⟩
    case measure => simp [intOf]; omega
  ·obtain rfl : k = l.length := by omega
   have R : Hid (X = false) := HY.out hf
   clear hf
   go_wp2
   go_ret
   exact ⟨by rw [R.out]; rfl, Below.refl _ _⟩
theorem samebools_S (ao bo : Option Addr) (ca cb : Nat) (ss : List Bool) (w : World) (hl : ss.length <= 140737488355328) (hr : BRow w ao ss) (hs : BRow w bo ss) :
  Calls Try.prog 17 #[.slice ao ss.length ca, .slice bo ss.length cb] w fun e w' => e = .returned (.bool true) /\ ∃ d, w' = w.drewN d := by
 have hb : ((ss.length : Int) != ss.length) = false := by simp
 go_enter Try.func17, Try.ntmps17
 go_wp2
 go_loopw [5] (fun i wr => ∃ k d : Nat, k <= ss.length /\ i = .int .i64 k /\ wr = w.drewN d) (fun i _ => ss.length - (intOf i).toNat)
 case atStart => exact ⟨0, 0, Nat.zero_le _, rfl, rfl⟩
 case round =>
  obtain ⟨k, d, hk, rfl, rfl⟩ := hrel
  by_cases hlt : k < ss.length
  ·obtain ⟨b, off, rfl, _, hc⟩ := hr (by intro h; subst h; simp at hlt)
   obtain ⟨b2, off2, rfl, _, hc2⟩ := hs (by intro h; subst h; simp at hlt)
   have h1 := hc k hlt
   have h2 := hc2 k hlt
   clear hc hc2 hr hs
   generalize ss.getD k false = x at *
   have het : (x != x) = false := by simp
   go_wp2
   go_quiet (fail)
   go_wp2
   go_roundw
   case rel => exact ⟨k + 1, _, by omega, by go_num, rfl⟩
   case measure => simp [intOf]; omega
  ·go_wp2
   go_ret
   exact ⟨rfl, _, rfl⟩
theorem run_si2 {o : Oper} {a : Act} {t0 t1 : TypeId} {v0 v1 : Value} {x0 x1 : Operand} (hop : o.op = Op.call { callee := Callee.value (Operand.func 36), args := #[x0, x1], argTypes := #[t0, t1] }) (h0 : a.eval x0 = v0) (h1 : a.eval x1 = v1) (w : World) : (execOp a.eval o).run Try.prog w = .ok (.enter 36 #[v0, v1]) w := by
 have hf : a.eval (Operand.func 36) = .func (.func 36) #[] #[] := rfl
 simp [execOp, hop, resolve, invoke, h0, h1, hf, Deferred.ofValue]
theorem drewN_below (w : World) : ∀ d, Below w.heap.size w (w.drewN d)
 | 0 => Below.refl _ _
 | d + 1 => (drewN_below w d).drew
theorem samelists_S (aa ba : Option Addr) (ca cb : Nat) (L : List (List Int)) (w : World) (hl : L.length <= 1048576) (hll : ∀ l ∈ L, l.length <= 140737488355328) (hr : LsRow w aa L) (hs : LsRow w ba L) :
  Calls Try.prog 18 #[.slice aa L.length ca, .slice ba L.length cb] w fun e w' => e = .returned (.bool true) /\ Below w.heap.size w w' := by
 have hb : ((L.length : Int) != L.length) = false := by simp
 have HR : Hid (∀ w', Below w.heap.size w w' -> LsRow w' aa L /\ LsRow w' ba L) := fun w' hb => ⟨hr.later hb, hs.later hb⟩
 have HLL : Hid (∀ l ∈ L, l.length <= 140737488355328) := hll
 clear hr hs hll
 go_enter Try.func18, Try.ntmps18
 go_wp2
 go_loopw [5] (fun i wr => ∃ k : Nat, k <= L.length /\ i = .int .i64 k /\ Below w.heap.size w wr) (fun i _ => L.length - (intOf i).toNat)
 case atStart => exact ⟨0, Nat.zero_le _, rfl, Below.refl _ _⟩
 case round =>
  obtain ⟨k, hk, rfl, hbw⟩ := hrel
  have HB : Hid (Below w.heap.size w wr) := hbw
  by_cases hlt : k < L.length
  ·have klt : (k : Int) < (L.length : Int) := by omega
   have hne : L ≠ [] := by intro e; rw [e] at hlt; simp at hlt
   obtain ⟨ab, ao, rfl, hab, hac⟩ := (HR.out wr hbw).1 hne
   obtain ⟨bb, bo, rfl, hbb, hbc⟩ := (HR.out wr hbw).2 hne
   obtain ⟨la, lc, c0, hrow⟩ := hac k hlt
   obtain ⟨ma, mc, c1, hrow2⟩ := hbc k hlt
   have hrl := HLL.out (L.getD k []) (by simp [List.getD, hlt])
   generalize L.getD k [] = l at *
   have KS0 : Hid (∀ w', Below wr.heap.size wr w' -> (fun w' : World => w'.cell? ⟨ab, ao + k, none⟩ = some (.slice la l.length lc) /\ w'.cell? ⟨bb, bo + k, none⟩ = some (.slice ma l.length mc)) w') := fun w' hw => ⟨(hw.cell (p := ⟨ab, ao + k, none⟩) hab).trans c0, (hw.cell (p := ⟨bb, bo + k, none⟩) hbb).trans c1⟩
   have SC : Hid (∀ w', Below wr.heap.size wr w' -> Calls Try.prog 36 #[.slice la l.length lc, .slice ma l.length mc] w' fun e w'' => e = .returned (.bool true) /\ Below w'.heap.size w' w'') := fun w' hw => (sameints_g la ma _ _ lc mc l w' rfl rfl hrl (hrow.later hw) (hrow2.later hw)).mono (by rintro e w'' ⟨q, d, rfl⟩; exact ⟨q, drewN_below w' d⟩)
   have BD : Hid (Below wr.heap.size wr wr.drew) := (Below.refl _ _).drew
   have hs : Hid ((fun w' : World => w'.cell? ⟨ab, ao + k, none⟩ = some (.slice la l.length lc) /\ w'.cell? ⟨bb, bo + k, none⟩ = some (.slice ma l.length mc)) wr.drew) := KS0.out _ BD.out
   clear hbw hac hbc hrow hrow2 c0 c1 hne
   go_wp2
   refine wp_region_x (S := fun _ => (fun w' : World => w'.cell? ⟨ab, ao + k, none⟩ = some (.slice la l.length lc) /\ w'.cell? ⟨bb, bo + k, none⟩ = some (.slice ma l.length mc))) (by kernel_rfl) ?_
   refine takeF (i := 0) (v := ?_) rfl (by kernel_rfl) (by decide +kernel) (by decide +kernel) (fun _ _ _ h => h) (Or.inl ⟨by rfl, ?_⟩) hs.out ?_
   rotate_left
   ·(intro w hSw; (try dsimp only at hSw); go_simp; try (with_reducible rfl))
   (try simp only [Act.put, lsA, lsZ, lsN])
   refine takeF (i := 1) (v := ?_) rfl (by kernel_rfl) (by decide +kernel) (by decide +kernel) (fun _ _ _ h => h) (Or.inl ⟨by rfl, ?_⟩) hs.out ?_
   rotate_left
   ·(intro w hSw; (try dsimp only at hSw); go_simp; try (with_reducible rfl))
   (try simp only [Act.put, lsA, lsZ, lsN])
   refine takeF (i := 2) (v := ?_) rfl (by kernel_rfl) (by decide +kernel) (by decide +kernel) (fun _ _ _ h => h) (Or.inl ⟨by rfl, ?_⟩) hs.out ?_
   rotate_left
   ·(intro w hSw; (try dsimp only at hSw); go_simp; try (with_reducible rfl))
   (try simp only [Act.put, lsA, lsZ, lsN])
   refine takeF (i := 3) (v := ?_) rfl (by kernel_rfl) (by decide +kernel) (by decide +kernel) (fun _ _ _ h => h) (Or.inl ⟨by rfl, ?_⟩) hs.out ?_
   rotate_left
   ·(intro w hSw; (try dsimp only at hSw); go_simp; try (with_reducible rfl))
   (try simp only [Act.put, lsA, lsZ, lsN])
   refine takeF (i := 4) (v := ?_) rfl (by kernel_rfl) (by decide +kernel) (by decide +kernel) (fun _ _ _ h => h) (Or.inl ⟨by rfl, ?_⟩) hs.out ?_
   rotate_left
   ·(intro w hSw; (try dsimp only at hSw); go_simp; try (with_reducible rfl))
   (try simp only [Act.put, lsA, lsZ, lsN])
   refine takeF (i := 5) (v := ?_) rfl (by kernel_rfl) (by decide +kernel) (by decide +kernel) (fun _ _ _ h => h) (Or.inl ⟨by rfl, ?_⟩) hs.out ?_
   rotate_left
   ·(intro w hSw; (try dsimp only at hSw); go_simp; try (with_reducible rfl))
   (try simp only [Act.put, lsA, lsZ, lsN])
   refine takeF (i := 6) (v := ?_) rfl (by kernel_rfl) (by decide +kernel) (by decide +kernel) (fun _ _ _ h => h) (Or.inl ⟨by rfl, ?_⟩) hs.out ?_
   rotate_left
   ·(intro w hSw; (try dsimp only at hSw); go_simp; try (with_reducible rfl))
   (try simp only [Act.put, lsA, lsZ, lsN])
   refine takeF (i := 7) (v := ?_) rfl (by kernel_rfl) (by decide +kernel) (by decide +kernel) (fun _ _ _ h => h) (Or.inl ⟨by rfl, ?_⟩) hs.out ?_
   rotate_left
   ·(intro w hSw; (try dsimp only at hSw); go_simp; try (with_reducible rfl))
   (try simp only [Act.put, lsA, lsZ, lsN])
   refine wpAnyX_one (j := 8) (by decide +kernel) rfl (fun K' hK => ?_)
   refine step_callX rfl 36 #[.slice la l.length lc, .slice ma l.length mc] _ (run_si2 (v0 := .slice la l.length lc) (v1 := .slice ma l.length mc) (by rfl) (by rfl) (by rfl) _) (SC.out _ BD.out) ?_
   rintro e w3 ⟨rfl, b3⟩
   have B3 : Hid (Below wr.heap.size wr w3) := BD.out.trans b3
   clear b3 hs
   have hs : Hid ((fun w' : World => w'.cell? ⟨ab, ao + k, none⟩ = some (.slice la l.length lc) /\ w'.cell? ⟨bb, bo + k, none⟩ = some (.slice ma l.length mc)) w3) := KS0.out _ B3.out
   refine ⟨_, rfl, hK.out _ _ hs.out ?_⟩
   clear hK K'
   (try simp only [Act.put, lsA, lsZ, lsN])
   refine takeF (i := 9) (v := ?_) rfl (by kernel_rfl) (by decide +kernel) (by decide +kernel) (fun _ _ _ h => h) (Or.inl ⟨by rfl, ?_⟩) hs.out ?_
   rotate_left
   ·(intro w hSw; (try dsimp only at hSw); go_simp; try (with_reducible rfl))
   (try simp only [Act.put, lsA, lsZ, lsN])
   refine wpAnyX_done (by decide +kernel) ?_
   clear hs
   have W3 : Hid (Below w.heap.size w w3) := HB.out.trans (B3.out.mono HB.out.size)
   go_wp2
   go_roundw
   case rel => exact ⟨k + 1, by omega, by go_num, W3.out⟩
   case measure => simp [intOf]; omega
  ·obtain rfl : k = L.length := by omega
   clear hbw
   go_wp2
   go_ret
   exact ⟨rfl, HB.out⟩
end Go.Proofs.Ytfgdpmcpjpceoaa
