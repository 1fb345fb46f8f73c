import Derived.Test.YtlkkllehaabebaaPFThreeToFChk8
import Derived.Test.YtlkkllehaabebaaPGCheckPToGSame2
namespace Go.Proofs.Ytlkkllehaabebaa
set_option linter.unusedVariables false
set_option maxRecDepth 100000
set_option maxHeartbeats 16000000
open Go.RowKit
def LeS (a b : BS) : Prop := ∀ n, n < 128 -> hasS a n = true -> hasS b n = true
theorem LeS.refl (a : BS) : LeS a a := fun _ _ h => h
theorem LeS.trans {a b c : BS} (h : LeS a b) (h' : LeS b c) : LeS a c := fun n hn q => h' n hn (h n hn q)
theorem leS_with {a b c : BS} (h : LeS a c) (h' : LeS b c) : LeS (withS a b) c := fun n hn q => by
 rw [hasS_with, Bool.or_eq_true] at q
 exact q.elim (h n hn) (h' n hn)
theorem leS_left (a b : BS) : LeS a (withS a b) := fun n _ q => by rw [hasS_with, q]; rfl
theorem leS_right (a b : BS) : LeS b (withS a b) := fun n _ q => by rw [hasS_with, q]; simp
theorem ahead_mono {N N' : List Bool} {F G : List BS} (hN : ∀ i, N.getD i false = true -> N'.getD i false = true) (hF : ∀ i, LeS (F.getD i (0, 0)) (G.getD i (0, 0))) (s : Int × Int) {a b : BS} (h : LeS a b) : LeS (aheadS N F s a) (aheadS N' G s b) := by
 unfold aheadS
 by_cases h1 : s.1 = 1
 ·rw [if_pos h1, if_pos h1]; exact LeS.refl _
 ·rw [if_neg h1, if_neg h1]
  by_cases h2 : N.getD s.2.toNat false = true
  ·rw [if_pos h2, if_pos (hN _ h2)]
   exact leS_with (h.trans (leS_left _ _)) ((hF _).trans (leS_right _ _))
  ·rw [if_neg h2]
   split
   ·exact (hF _).trans (leS_right _ _)
   ·exact hF _
theorem of_mono {N N' : List Bool} {F G : List BS} (hN : ∀ i, N.getD i false = true -> N'.getD i false = true) (hF : ∀ i, LeS (F.getD i (0, 0)) (G.getD i (0, 0))) {a b : BS} (h : LeS a b) : ∀ l : List (Int × Int), LeS (ofS N F l a) (ofS N' G l b)
 | [] => h
 | s :: l => ahead_mono hN hF s (of_mono hN hF h l)
def ClosF (N : List Bool) (ps : List PV) (F : List BS) : Prop := ∀ p ∈ ps, LeS (ofS N F p.right (0, 0)) (F.getD p.left.toNat (0, 0))
theorem step_in {N N' : List Bool} {F G : List BS} (hN : ∀ i, N.getD i false = true -> N'.getD i false = true) (hF : ∀ i, LeS (F.getD i (0, 0)) (G.getD i (0, 0))) {p : PV} (hp : LeS (ofS N' G p.right (0, 0)) (G.getD p.left.toNat (0, 0))) : ∀ i, LeS ((rStep N F p).getD i (0, 0)) (G.getD i (0, 0)) := fun i => by
 unfold rStep
 rw [getD_setS]
 split
 ·rename_i h
  rw [<- h.1]
  exact leS_with (hF _) ((of_mono hN hF (LeS.refl _) _).trans hp)
 ·exact hF i
theorem fold_in {N N' : List Bool} {G : List BS} (hN : ∀ i, N.getD i false = true -> N'.getD i false = true) : ∀ (ps : List PV) (F : List BS), ClosF N' ps G -> (∀ i, LeS (F.getD i (0, 0)) (G.getD i (0, 0))) -> ∀ i, LeS ((ps.foldl (rStep N) F).getD i (0, 0)) (G.getD i (0, 0))
 | [], _, _, h => h
 | p :: ps, F, hc, h => fold_in hN ps _ (fun q hq => hc q (List.mem_cons_of_mem _ hq)) (step_in hN h (hc p (List.mem_cons_self ..)))
theorem iter_in {N N' : List Bool} {ps : List PV} {F G : List BS} (hN : ∀ i, N.getD i false = true -> N'.getD i false = true) (hc : ClosF N' ps G) (h : ∀ i, LeS (F.getD i (0, 0)) (G.getD i (0, 0))) : ∀ k i, LeS ((iterS N ps F k).getD i (0, 0)) (G.getD i (0, 0))
 | 0 => h
 | k + 1 => fold_in hN ps _ hc (iter_in hN hc h k)
theorem rep_zero (n i : Nat) : (List.replicate n ((0, 0) : BS)).getD i (0, 0) = (0, 0) := by simp [List.getD, List.getElem?_replicate]; split <;> rfl
theorem LeastF.within {g : GV} {F G : List BS} {N' : List Bool} (h : LeastF g F) (hN : ∀ i, (nullU g.ps g.ns.length).getD i false = true -> N'.getD i false = true) (hc : ClosF N' g.ps G) : ∀ i, LeS (F.getD i (0, 0)) (G.getD i (0, 0)) := by
 obtain ⟨k, rfl, _⟩ := h
 exact iter_in hN hc (fun i n hn q => by rw [rep_zero, hasS_zero] at q; cases q) k
theorem LeF.antisymm {F G : List BS} (h : LeF F G) (h' : LeF G F) : F = G := by
 apply List.ext_getElem h.1.symm
 intro i h1 h2
 have a := h.2 i
 have b := h'.2 i
 simp only [List.getD, List.getElem?_eq_getElem h1, List.getElem?_eq_getElem h2, Option.getD_some] at a b
 exact Prod.ext (by omega) (by omega)
theorem fold_fix (N : List Bool) : ∀ (ps : List PV) (F : List BS), ps.foldl (rStep N) F = F -> ∀ p ∈ ps, rStep N F p = F
 | [], _, _, p, hp => absurd hp (List.not_mem_nil)
 | q :: ps, F, h, p, hp => by
  rw [List.foldl_cons] at h
  have e : rStep N F q = F := LeF.antisymm (by have := rFold_le N ps (rStep N F q); rwa [h] at this) (rStep_le N F q)
  rw [e] at h
  rcases List.mem_cons.1 hp with rfl | hp
  ·exact e
  ·exact fold_fix N ps F h p hp
theorem fix_closed {N : List Bool} {ps : List PV} {F : List BS} (h : roundS N ps F = F) (hl : ∀ p ∈ ps, p.left.toNat < F.length) : ClosF N ps F := fun p hp => by
 have e := fold_fix N ps F h p hp
 have e2 : (rStep N F p).getD p.left.toNat (0, 0) = F.getD p.left.toNat (0, 0) := by rw [e]
 unfold rStep at e2
 rw [getD_setS, if_pos ⟨rfl, hl p hp⟩] at e2
 have := leS_right (F.getD p.left.toNat (0, 0)) (ofS N F p.right (0, 0))
 rwa [e2] at this
theorem of_all {N : List Bool} {F : List BS} {R : Nat -> Prop} (hF : ∀ i n, n < 128 -> hasS (F.getD i (0, 0)) n = true -> R n) {look : BS} (hk : ∀ n, n < 128 -> hasS look n = true -> R n) : ∀ l : List (Int × Int), (∀ s ∈ l, s.1 = 1 -> 0 <= s.2 /\ s.2 < 128 /\ R s.2.toNat) -> ∀ n, n < 128 -> hasS (ofS N F l look) n = true -> R n
 | [], _ => hk
 | s :: l, hs => fun n hn q => by
  have ih := of_all (N := N) hF hk l (fun t ht => hs t (List.mem_cons_of_mem _ ht))
  have e : ofS N F (s :: l) look = aheadS N F s (ofS N F l look) := rfl
  rw [e] at q
  unfold aheadS at q
  by_cases h1 : s.1 = 1
  ·rw [if_pos h1] at q
   obtain ⟨a0, a1, a2⟩ := hs s (List.mem_cons_self ..) h1
   have := (setS_has (l := [s.2]) (fun x hx => by simp at hx; omega) n hn).1 q
   simp at this
   rw [show n = s.2.toNat by omega]; exact a2
  ·rw [if_neg h1] at q
   split at q
   ·rw [hasS_with, Bool.or_eq_true] at q
    exact q.elim (ih n hn) (hF _ n hn)
   ·exact hF _ n hn q
theorem fold_all {N : List Bool} {R : Nat -> Prop} : ∀ (ps : List PV) (F : List BS), (∀ p ∈ ps, ∀ s ∈ p.right, s.1 = 1 -> 0 <= s.2 /\ s.2 < 128 /\ R s.2.toNat) -> (∀ i n, n < 128 -> hasS (F.getD i (0, 0)) n = true -> R n) -> ∀ i n, n < 128 -> hasS ((ps.foldl (rStep N) F).getD i (0, 0)) n = true -> R n
 | [], _, _, h => h
 | p :: ps, F, hp, h => fold_all ps _ (fun q hq => hp q (List.mem_cons_of_mem _ hq)) (fun i n hn q => by
   unfold rStep at q
   rw [getD_setS] at q
   split at q
   ·rw [hasS_with, Bool.or_eq_true] at q
    exact q.elim (h _ n hn) (of_all h (fun n _ q => by rw [hasS_zero] at q; cases q) p.right (hp p (List.mem_cons_self ..)) n hn)
   ·exact h i n hn q)
theorem iter_all {N : List Bool} {ps : List PV} {R : Nat -> Prop} (m : Nat) (hp : ∀ p ∈ ps, ∀ s ∈ p.right, s.1 = 1 -> 0 <= s.2 /\ s.2 < 128 /\ R s.2.toNat) : ∀ k i n, n < 128 -> hasS ((iterS N ps (List.replicate m (0, 0)) k).getD i (0, 0)) n = true -> R n
 | 0 => fun i n hn q => by have e : iterS N ps (List.replicate m (0, 0)) 0 = List.replicate m (0, 0) := rfl; rw [e, rep_zero, hasS_zero] at q; cases q
 | k + 1 => fold_all ps _ hp (iter_all m hp k)
theorem set_list {s : BS} (h : OkS s) : setS (listS s 128) = s := by
 have hb : ∀ x ∈ listS s 128, 0 <= x /\ x < 128 := fun x hx => by have := (listS_mem s 128 x).1 hx; omega
 refine setS_ext (setS_ok hb) h (fun n hn => ?_)
 have h1 := setS_has hb n hn
 rw [listS_mem] at h1
 rw [Bool.eq_iff_iff, h1]
 simp
 omega
theorem sets_lists {F : List BS} (h : ∀ i, OkS (F.getD i (0, 0))) : (listsU F).map setS = F := by
 unfold listsU
 rw [List.map_map]
 apply List.ext_getElem (by simp)
 intro i h1 h2
 have := h i
 rw [show F.getD i (0, 0) = F[i] by simp [List.getD, h2]] at this
 simpa using set_list this
theorem rise_list (s : BS) (n : Nat) : riseF (listS s n) = true := by
 refine decide_eq_true (fun i hi => ?_)
 have := List.pairwise_iff_getElem.1 (listS_rises s n) i (i + 1) (by omega) (by omega) (by omega)
 simpa [List.getD, show i < (listS s n).length by omega, show i + 1 < (listS s n).length by omega] using this
structure GP (g : GV) : Prop where
 left : ∀ p ∈ g.ps, 0 <= p.left /\ p.left < g.ns.length
 sym : ∀ p ∈ g.ps, ∀ s ∈ p.right, (s.1 = 1 /\ 0 <= s.2 /\ s.2 < g.ts.length) ∨ (s.1 = 2 /\ 0 <= s.2 /\ s.2 < g.ns.length)
 tl : g.ts.length <= 64
theorem GP.symIn {g : GV} (h : GP g) {N : List Bool} (hN : N.length = g.ns.length) : ∀ p ∈ g.ps, ∀ s ∈ p.right, SymIn N.length s := fun p hp s hs => by
 have := h.tl
 rcases h.sym p hp s hs with q | q
 ·exact .inl ⟨q.1, q.2.1, by omega⟩
 ·exact .inr ⟨q.1, q.2.1, by omega⟩
theorem psD {g : GV} {j : Nat} (hj : j < g.ps.length) : g.ps.getD j .none ∈ g.ps := by simp [List.getD, hj]
theorem LeastF.closed {g : GV} {F : List BS} (hg : GP g) (h : LeastF g F) : ClosF (nullU g.ps g.ns.length) g.ps F := by
 obtain ⟨k, _, h2, _, h4⟩ := h
 exact fix_closed h2 (fun p hp => by have := hg.left p hp; omega)
theorem LeastF.below {g : GV} {F : List BS} (hg : GP g) (h : LeastF g F) : ∀ i n, n < 128 -> hasS (F.getD i (0, 0)) n = true -> n < g.ts.length := by
 obtain ⟨k, rfl, _⟩ := h
 refine iter_all _ (fun p hp s hs e => ?_) k
 have := hg.tl
 rcases hg.sym p hp s hs with q | q <;> omega
theorem LeastF.chk {g : GV} {F : List BS} (hg : GP g) (h : LeastF g F) : chkF (nullU g.ps g.ns.length) (listsU F) g.ps g.ts.length = (0, 0) := by
 have hok : ∀ i, OkS (F.getD i (0, 0)) := by obtain ⟨k, _, _, h3, _⟩ := h; exact h3
 have hlen : (listsU F).length = F.length := by simp [listsU]
 have e1 : firstO (badL (listsU F) g.ts.length) (listsU F).length = none := firstO_none (fun j hj => by
  rw [hlen] at hj
  have e : (listsU F).getD j [] = listS (F.getD j (0, 0)) 128 := by simp [listsU, List.getD, hj]
  unfold badL
  rw [e, rise_list]
  have : allB (listS (F.getD j (0, 0)) 128) g.ts.length = true := List.all_eq_true.2 (fun x hx => by
   have q := (listS_mem _ 128 x).1 hx
   have := h.below hg j x.toNat (by omega) q.2.2
   simp [below1]
   omega)
  rw [this]
  rfl)
 have e2 : firstO (badP (nullU g.ps g.ns.length) ((listsU F).map setS) g.ps) g.ps.length = none := firstO_none (fun j hj => by
  rw [sets_lists hok]
  have hm := psD hj
  have hc := h.closed hg _ hm
  unfold badP
  have : withS (ofS (nullU g.ps g.ns.length) F (g.ps.getD j .none).right (0, 0)) (F.getD (g.ps.getD j .none).left.toNat (0, 0)) = F.getD (g.ps.getD j .none).left.toNat (0, 0) := (within_iff (ofS_ok hok _ _ (hg.symIn (nullU_len _ _) _ hm) OkS.zero) (hok _)).2 hc
  rw [decide_eq_true this]
  rfl)
 rw [chkF, e1, e2]
end Go.Proofs.Ytlkkllehaabebaa
namespace Go.Proofs.Ytlkkllehaabebaa
set_option linter.unusedVariables false
set_option maxRecDepth 100000
set_option maxHeartbeats 16000000
open Go.RowKit
theorem samebools_S (ao bo : Option Addr) (ca cb : Nat) (ss : List Bool) (w : World) (hl : ss.length <= 140737488355328) (hr : BRow w ao ss) (hs : BRow w bo ss) :
  Calls Try.prog 25 #[.slice ao ss.length ca, .slice bo ss.length cb] w fun e w' => e = .returned (.bool true) /\ ∃ d, w' = w.drewN d := by
 have hb : ((ss.length : Int) != ss.length) = false := by simp
 go_enter Try.func25, Try.ntmps25
 go_wp2
 go_loopw [5] (fun i wr => ∃ k d : Nat, k <= ss.length /\ i = .int .i64 k /\ wr = w.drewN d) (fun i _ => ss.length - (intOf i).toNat)
 case atStart => exact ⟨0, 0, Nat.zero_le _, rfl, rfl⟩
 case round =>
  obtain ⟨k, d, hk, rfl, rfl⟩ := hrel
  by_cases hlt : k < ss.length
  ·obtain ⟨b, off, rfl, _, hc⟩ := hr (by intro h; subst h; simp at hlt)
   obtain ⟨b2, off2, rfl, _, hc2⟩ := hs (by intro h; subst h; simp at hlt)
   have h1 := hc k hlt
   have h2 := hc2 k hlt
   clear hc hc2 hr hs
   generalize ss.getD k false = x at *
   have het : (x != x) = false := by simp
   go_wp2
   go_quiet (fail)
   go_wp2
   go_roundw
   case rel => exact ⟨k + 1, _, by omega, by go_num, rfl⟩
   case measure => simp [intOf]; omega
  ·go_wp2
   go_ret
   exact ⟨rfl, _, rfl⟩
end Go.Proofs.Ytlkkllehaabebaa
