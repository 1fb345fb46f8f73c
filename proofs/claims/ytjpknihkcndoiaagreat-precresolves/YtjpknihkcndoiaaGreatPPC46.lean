import Derived.Test.YtjpknihkcndoiaaGreatPPC41ToPC43
namespace Go.Proofs.YtjpknihkcndoiaaGreat
set_option linter.unusedVariables false
set_option maxRecDepth 100000
set_option maxHeartbeats 16000000
open Go.RowKit Go.Maps
def stR (P : List DV) : Int := ((kindD 2 P).getLast?.map DV.prod).getD (-1)
def byR (P : List DV) : Int := ((kindD 2 P).getLast?.map DV.lev).getD (-1)
def wrR (P : List DV) : Int := ((kindD 3 P).head?.map DV.lev).getD (-1)
def mnR (P : List DV) : Bool := decide (1 < (kindD 2 P).length)
theorem kindD_snoc (k : Int) (P : List DV) (d : DV) : kindD k (P ++ [d]) = if d.kind = k then kindD k P ++ [d] else kindD k P := by
 unfold kindD
 rw [List.filter_append]
 by_cases h : d.kind = k <;> simp [h]
theorem stR_red {P : List DV} {d : DV} (h : d.kind = 2) : stR (P ++ [d]) = d.prod /\ byR (P ++ [d]) = d.lev /\ wrR (P ++ [d]) = wrR P := by
 unfold stR byR wrR
 rw [kindD_snoc, if_pos h, kindD_snoc, if_neg (by omega)]
 simp
theorem mnR_red {P : List DV} {d : DV} (h : d.kind = 2) (hp : ∀ x ∈ P, x.kind = 2 -> 0 <= x.prod) : mnR (P ++ [d]) = (mnR P || decide (0 <= stR P)) := by
 unfold mnR stR
 rw [kindD_snoc, if_pos h]
 have hq : ∀ x ∈ kindD 2 P, 0 <= x.prod := fun x hx => by
  obtain ⟨h1, h2⟩ := List.mem_filter.1 hx
  exact hp x h1 (of_decide_eq_true h2)
 generalize kindD 2 P = L at *
 rcases List.eq_nil_or_concat L with rfl | ⟨M, y, rfl⟩
 ·simp
 ·have := hq y (by simp)
  simp [this]
theorem stR_err {P : List DV} {d : DV} (h : d.kind = 3) (hp : ∀ x ∈ P, x.kind = 3 -> 0 <= x.lev) : stR (P ++ [d]) = stR P /\ byR (P ++ [d]) = byR P /\ mnR (P ++ [d]) = mnR P /\ wrR (P ++ [d]) = if wrR P < 0 then d.lev else wrR P := by
 unfold stR byR wrR mnR
 rw [kindD_snoc, if_neg (by omega), kindD_snoc, if_pos h]
 refine ⟨rfl, rfl, rfl, ?_⟩
 have hq : ∀ x ∈ kindD 3 P, 0 <= x.lev := fun x hx => by
  obtain ⟨h1, h2⟩ := List.mem_filter.1 hx
  exact hp x h1 (of_decide_eq_true h2)
 generalize kindD 3 P = L at *
 match L with
 | [] => simp
 | y :: M =>
  have := hq y (by simp)
  simp
  omega
theorem stR_shi {P : List DV} {d : DV} (h : d.kind = 1) : stR (P ++ [d]) = stR P /\ byR (P ++ [d]) = byR P /\ mnR (P ++ [d]) = mnR P /\ wrR (P ++ [d]) = wrR P := by
 unfold stR byR wrR mnR
 rw [kindD_snoc, if_neg (by omega), kindD_snoc, if_neg (by omega)]
 exact ⟨rfl, rfl, rfl, rfl⟩
def enR (look lv : Int) (red : List Int) (P : List DV) : DV :=
 if mnR P = true then noneD look
 else if 0 <= stR P then ⟨look, 2, stR P, red.filter fun p => decide (p ≠ stR P), true, byR P⟩
 else if 0 <= wrR P then ⟨look, 3, -1, red.filter fun p => decide (p ≠ stR P), true, wrR P⟩
 else ⟨look, 1, -1, red.filter fun p => decide (p ≠ stR P), false, lv⟩
theorem dec_kinds (g : GV) (p : Nat) (t : Int) : (decU g p t).look = t /\ ((decU g p t).kind = 0 ∨ ((decU g p t).kind = 1 /\ (decU g p t).prod = -1 /\ (decU g p t).sd = false /\ (decU g p t).lev = levU g.ls t) ∨ ((decU g p t).kind = 2 /\ (decU g p t).prod = p /\ (decU g p t).sd = true) ∨ ((decU g p t).kind = 3 /\ (decU g p t).prod = -1 /\ (decU g p t).sd = true /\ 0 <= (decU g p t).lev)) := by
 refine ⟨dec_look g p t, ?_⟩
 have hP := lev_ge g.ls (ownU (g.ps.getD p .none))
 have hT := lev_ge g.ls t
 unfold decU duelD plvU eqD
 repeat' split
 ·left; rfl
 ·right; right; left; exact ⟨rfl, rfl, rfl⟩
 ·right; left; exact ⟨rfl, rfl, rfl, rfl⟩
 ·right; right; left; exact ⟨rfl, rfl, rfl⟩
 ·right; left; exact ⟨rfl, rfl, rfl, by simp only [shiD]; omega⟩
 ·right; right; right; exact ⟨rfl, rfl, rfl, by simp only [errD]; omega⟩
theorem en_res {g : GV} {look shift : Int} {red : List Int} (hs : shift ≠ -1) (hm : (-1) ∉ red) (hr : ∀ p ∈ red, 0 <= p) (hne : red ≠ []) (h0 : ∀ p ∈ red, (decU g p.toNat look).kind ≠ 0) : enR look (levU g.ls look) red (red.map fun p => decU g p.toNat look) = resU g look shift red := by
 unfold resU
 rw [if_neg (by intro e; rcases e with e | e; exact hs e; exact hm e)]
 have hd : ∀ d ∈ red.map (fun p => decU g p.toNat look), d.look = look /\ ((d.kind = 1 /\ d.prod = -1 /\ d.sd = false /\ d.lev = levU g.ls look) ∨ (d.kind = 2 /\ 0 <= d.prod /\ d.sd = true) ∨ (d.kind = 3 /\ d.prod = -1 /\ d.sd = true /\ 0 <= d.lev)) := fun d hd => by
  obtain ⟨p, hp, rfl⟩ := List.mem_map.1 hd
  have := dec_kinds g p.toNat look
  refine ⟨this.1, ?_⟩
  rcases this.2 with q | q | q | q
  ·exact absurd q (h0 p hp)
  ·exact .inl q
  ·exact .inr (.inl ⟨q.1, by rw [q.2.1]; omega, q.2.2⟩)
  ·exact .inr (.inr q)
 have hne' : red.map (fun p => decU g p.toNat look) ≠ [] := by simpa using hne
 generalize (red.map fun p => decU g p.toNat look) = ds at *
 have k0 : kindD 0 ds = [] := by
  unfold kindD
  rw [List.filter_eq_nil_iff]
  intro d h
  rcases (hd d h).2 with q | q | q <;> simp [q.1]
 have hk : ∀ (k : Int) (d : DV), d ∈ kindD k ds -> d ∈ ds /\ d.kind = k := fun k d h => by
  obtain ⟨h1, h2⟩ := List.mem_filter.1 h
  exact ⟨h1, of_decide_eq_true h2⟩
 unfold pickD enR mnR
 by_cases hmn : 1 < (kindD 2 ds).length
 ·rw [if_pos (by simpa using hmn), if_pos (Or.inr hmn)]
 have hmn2 : ¬ (kindD 0 ds ≠ [] ∨ 1 < (kindD 2 ds).length) := by rw [k0]; simpa using hmn
 rw [if_neg (by simpa using hmn), if_neg hmn2]
 rcases h2 : kindD 2 ds with _ | ⟨d, _ | ⟨y, r⟩⟩
 ·have e0 : stR ds = -1 := by unfold stR; rw [h2]; rfl
  rw [e0, if_neg (by omega)]
  rcases h3 : kindD 3 ds with _ | ⟨d, r⟩
  ·have e3 : wrR ds = -1 := by unfold wrR; rw [h3]; rfl
   rw [e3, if_neg (by omega)]
   rcases h1 : kindD 1 ds with _ | ⟨d, r⟩
   ·exfalso
    obtain ⟨d, hm⟩ := List.exists_mem_of_ne_nil ds hne'
    have nk : ∀ (k : Int), kindD k ds = [] -> d.kind ≠ k := fun k h e => by
     have : d ∈ kindD k ds := List.mem_filter.2 ⟨hm, by simpa using e⟩
     rw [h] at this
     cases this
    rcases (hd d hm).2 with q | q | q
    ·exact nk 1 h1 q.1
    ·exact nk 2 h2 q.1
    ·exact nk 3 h3 q.1
   ·obtain ⟨e1, e2⟩ := hk 1 d (by rw [h1]; simp)
    obtain ⟨q1, q2⟩ := hd d e1
    have hp : d.prod = -1 /\ d.sd = false /\ d.lev = levU g.ls look := by rcases q2 with q | q | q <;> first | omega | exact q.2
    obtain ⟨lk, kd, pd, dr, sd, lv⟩ := d
    simp only at e2 q1 hp
    simp [dropD, e2, q1, hp.1, hp.2.1, hp.2.2]
  ·have e3 : wrR ds = d.lev := by unfold wrR; rw [h3]; rfl
   obtain ⟨e1, e2⟩ := hk 3 d (by rw [h3]; simp)
   obtain ⟨q1, q2⟩ := hd d e1
   have hp : d.prod = -1 /\ d.sd = true /\ 0 <= d.lev := by rcases q2 with q | q | q <;> first | omega | exact q.2
   rw [e3, if_pos hp.2.2]
   obtain ⟨lk, kd, pd, dr, sd, lv⟩ := d
   simp only at e2 q1 hp
   simp [dropD, e2, q1, hp.1, hp.2.1]
 ·have e0 : stR ds = d.prod := by unfold stR; rw [h2]; rfl
  have e3 : byR ds = d.lev := by unfold byR; rw [h2]; rfl
  obtain ⟨e1, e2⟩ := hk 2 d (by rw [h2]; simp)
  obtain ⟨q1, q2⟩ := hd d e1
  have hp : 0 <= d.prod /\ d.sd = true := by rcases q2 with q | q | q <;> first | omega | exact q.2
  rw [e0, e3, if_pos hp.1]
  obtain ⟨lk, kd, pd, dr, sd, lv⟩ := d
  simp only at e2 q1 hp
  simp [dropD, e2, q1, hp.2]
 ·rw [h2] at hmn
  simp at hmn
end Go.Proofs.YtjpknihkcndoiaaGreat
