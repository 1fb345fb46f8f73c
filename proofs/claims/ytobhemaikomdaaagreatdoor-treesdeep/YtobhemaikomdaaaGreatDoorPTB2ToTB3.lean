import Derived.Test.YtobhemaikomdaaaGreatDoorPTB0ToTB1
import Derived.Test.YtobhemaikomdaaaGreatDoorPTD3ToTSm
namespace Go.Proofs.YtobhemaikomdaaaGreatDoor
set_option linter.unusedVariables false
open Go.RowKit
structure FrB where
 p : Int
 k : Nat
 ks : List TV
def mkNd : Nat -> List FrB -> List (Int × Nat × Nat)
 | _, [] => []
 | n, f :: F => (f.p, f.k, n) :: mkNd (n + f.ks.length) F
def ksL (F : List FrB) : List TV := F.flatMap (·.ks)
theorem ksL_app (F G : List FrB) : ksL (F ++ G) = ksL F ++ ksL G := by simp [ksL]
theorem mkNd_snoc : ∀ (n : Nat) (F : List FrB) (f : FrB), mkNd n (F ++ [f]) = mkNd n F ++ [(f.p, f.k, n + (ksL F).length)]
 | n, [], f => by simp [mkNd, ksL]
 | n, g :: F, f => by
  rw [List.cons_append, mkNd, mkNd_snoc, mkNd, List.cons_append]
  have e : ksL (g :: F) = g.ks ++ ksL F := by simp [ksL]
  rw [e, List.length_append, Nat.add_assoc]
theorem mkNd_len : ∀ (n : Nat) (F : List FrB), (mkNd n F).length = F.length
 | _, [] => rfl
 | n, f :: F => by rw [mkNd, List.length_cons, mkNd_len, List.length_cons]
abbrev AB := List TV × List FrB
def adA : AB -> TV -> AB
 | (D, []), t => (D ++ [t], [])
 | (D, f :: S), t => (D, ⟨f.p, f.k, f.ks ++ [t]⟩ :: S)
def ndT (f : FrB) : TV := TV.mk f.p 0 ByteArray.empty none 0 f.ks
def clA : Nat -> AB -> AB
 | 0, A => A
 | _ + 1, (D, []) => (D, [])
 | n + 1, (D, f :: S) => if f.ks.length = f.k then clA n (adA (D, S) (ndT f)) else (D, f :: S)
def clU2 (A : AB) : AB := clA (A.2.length + 1) A
theorem adA_len (D : List TV) (S : List FrB) (t : TV) : (adA (D, S) t).2.length = S.length := by
 cases S with
 | nil => rfl
 | cons f S => rfl
theorem clU2_nil (D : List TV) : clU2 (D, []) = (D, []) := rfl
theorem clU2_cons (D : List TV) (f : FrB) (S : List FrB) : clU2 (D, f :: S) = if f.ks.length = f.k then clU2 (adA (D, S) (ndT f)) else (D, f :: S) := by
 show clA (S.length + 1 + 1) (D, f :: S) = _
 rw [clA]
 unfold clU2
 rw [adA_len]
def nlA (A : AB) : List (Int × Nat × Nat) := mkNd A.1.length A.2.reverse
def dlA (A : AB) : List TV := A.1 ++ ksL A.2.reverse
theorem nlA_cons (D : List TV) (f : FrB) (S : List FrB) : nlA (D, f :: S) = nlA (D, S) ++ [(f.p, f.k, (dlA (D, S)).length)] := by
 unfold nlA dlA
 simp only [List.reverse_cons]
 rw [mkNd_snoc, List.length_append]
theorem dlA_cons (D : List TV) (f : FrB) (S : List FrB) : dlA (D, f :: S) = dlA (D, S) ++ f.ks := by
 unfold dlA
 simp only [List.reverse_cons]
 rw [ksL_app, List.append_assoc]
 simp [ksL]
theorem nlA_ad (D : List TV) (S : List FrB) (t : TV) : nlA (adA (D, S) t) = nlA (D, S) := by
 cases S with
 | nil => rfl
 | cons f S =>
  show nlA (D, ⟨f.p, f.k, f.ks ++ [t]⟩ :: S) = _
  rw [nlA_cons, nlA_cons]
theorem dlA_ad (D : List TV) (S : List FrB) (t : TV) : dlA (adA (D, S) t) = dlA (D, S) ++ [t] := by
 cases S with
 | nil => simp [adA, dlA, ksL]
 | cons f S =>
  show dlA (D, ⟨f.p, f.k, f.ks ++ [t]⟩ :: S) = _
  rw [dlA_cons, dlA_cons, List.append_assoc]
def samS : List FrB -> List FrB -> Prop
 | [], [] => True
 | f :: S, g :: T => f.p = g.p /\ f.k = g.k /\ samL f.ks g.ks /\ samS S T
 | _, _ => False
def samA (A B : AB) : Prop := samL A.1 B.1 /\ samS A.2 B.2
theorem samA_ad {A B : AB} {t u : TV} (h : samA A B) (ht : samV t u) : samA (adA A t) (adA B u) := by
 obtain ⟨D, S⟩ := A
 obtain ⟨E, T⟩ := B
 obtain ⟨h1, h2⟩ := h
 cases S with
 | nil =>
  cases T with
  | nil => exact ⟨samL_app h1 (samL_one ht), trivial⟩
  | cons g T => exact h2.elim
 | cons f S =>
  cases T with
  | nil => exact h2.elim
  | cons g T =>
   obtain ⟨a, b, c, d⟩ := h2
   exact ⟨h1, a, b, samL_app c (samL_one ht), d⟩
theorem nd_sam {f g : FrB} (hp : f.p = g.p) (hk : samL f.ks g.ks) (a : Option Addr) (c : Nat) : samV (TV.mk f.p 0 ByteArray.empty a c f.ks) (ndT g) := by
 refine (samV_iff _ _).2 ⟨?_, hk.2⟩
 unfold sgV
 show (f.p, (0 : Int), ByteArray.empty, f.ks.length) = (g.p, (0 : Int), ByteArray.empty, g.ks.length)
 rw [hp, hk.1]
def BdS (w0 : World) (N bb bo : Nat) (OC : Nat -> Option Value) (RF : Nat -> Option Obj) (A : AB) (w : World) : Prop := ∃ vo vd B, samA B A /\ BdM w0 N bb bo OC RF vo vd (nlA B) (dlA B) w
theorem slice_toN (b lc len i : Nat) (hi : i <= lc) (w : World) : (Instr.slice 81 (.slice (some ⟨b, 0, none⟩) len lc) none (some (.int .i64 (i : Int))) none).run Tryz.prog w = .ok (.slice (some ⟨b, 0, none⟩) i lc) w := by
 have h : (Tryz.prog.info? 172).map (·.size) = some 3 := by kernel_rfl
 obtain ⟨i0, hinf, hz1⟩ := Option.map_eq_some_iff.1 h
 have hu : Tryz.prog.underlying 81 = some (.slice (Tryz.prog.elem 81)) := by kernel_rfl
 have he : Tryz.prog.elem 81 = 172 := by kernel_rfl
 have := run_slice_h (P := Tryz.prog) (w := w) 81 (some ⟨b, 0, none⟩) len lc hu .i64 (i : Int) (by omega) (by omega)
 rw [this, he]
 simp [sizeOf, typeInfo, hinf, hz1]
 unfold sliced
 split <;> simp [add_none]
theorem slice_toTr (a : Option Addr) (lc len i : Nat) (hi : i <= lc) (h0 : a = none -> lc = 0) (h1 : ∀ ad, a = some ad -> ad = ⟨ad.block, 0, none⟩) (w : World) : (Instr.slice 30 (.slice a len lc) none (some (.int .i64 (i : Int))) none).run Tryz.prog w = .ok (.slice a i lc) w := by
 obtain ⟨i0, hinf, _, hz1, _⟩ := infoTree_parts
 have hu : Tryz.prog.underlying 30 = some (.slice (Tryz.prog.elem 30)) := by kernel_rfl
 have he : Tryz.prog.elem 30 = 32 := by kernel_rfl
 have := run_slice_h (P := Tryz.prog) (w := w) 30 a len lc hu .i64 (i : Int) (by omega) (by omega)
 rw [this, he]
 simp [sizeOf, typeInfo, hinf, hz1]
 unfold sliced
 cases a with
 | none => simp
 | some ad =>
  rw [h1 ad rfl]
  split <;> simp [add_none]
theorem slice_froTr (b lc len i : Nat) (hi : i < len) (hc : len <= lc) (w : World) : (Instr.slice 30 (.slice (some ⟨b, 0, none⟩) len lc) (some (.int .i64 (i : Int))) none none).run Tryz.prog w = .ok (.slice (some ⟨b, i * 4, none⟩) (len - i) (lc - i)) w := by
 obtain ⟨i0, hinf, _, hz1, _⟩ := infoTree_parts
 have hu : Tryz.prog.underlying 30 = some (.slice (Tryz.prog.elem 30)) := by kernel_rfl
 have he : Tryz.prog.elem 30 = 32 := by kernel_rfl
 have := run_slice_l (P := Tryz.prog) (w := w) 30 (some ⟨b, 0, none⟩) len lc hu .i64 (i : Int) (by omega) (by omega)
 rw [this, he]
 simp [sizeOf, typeInfo, hinf, hz1]
 have hne : ¬ lc = i := by omega
 unfold sliced
 simp [hne, add_none]
theorem tail_row {w : World} {v : Value} {l m : List TV} (h : TRo w v (l ++ m)) (hm : m ≠ []) : ∃ b c, v = .slice (some ⟨b, 0, none⟩) (l ++ m).length c /\ (l ++ m).length <= c /\ KRow w (some ⟨b, l.length * 4, none⟩) m := by
 obtain ⟨b, c, rfl, hc, -⟩ := RO.cell (f := trCells) (fun _ => rfl) h (i := 0) (by rw [List.length_append]; have := List.length_pos_iff.2 hm; omega)
 refine ⟨b, c, rfl, hc, fun _ => ⟨b, l.length * 4, rfl, h.lt b rfl, fun i hi => ?_⟩⟩
 obtain ⟨b', c', e, _, hcell⟩ := RO.cell (f := trCells) (fun _ => rfl) h (i := l.length + i) (by rw [List.length_append]; omega)
 simp only [Value.slice.injEq, Option.some.injEq, Addr.mk.injEq, true_and, and_true] at e
 obtain ⟨rfl, rfl⟩ := e
 have eg : (l ++ m)[l.length + i]'(by rw [List.length_append]; omega) = m.getD i .none := by
  rw [List.getElem_append_right (by omega)]
  simp [List.getD, hi]
 rw [eg] at hcell
 have k0 := hcell 0 (by omega)
 have k1 := hcell 1 (by omega)
 have k2 := hcell 2 (by omega)
 have k3 := hcell 3 (by omega)
 simp only [trCells, List.getElem?_cons_zero, List.getElem?_cons_succ, Nat.add_zero] at k0 k1 k2 k3
 rw [show l.length * 4 + i * 4 = (l.length + i) * 4 by omega]
 exact ⟨k0, k1, k2, k3⟩
theorem row_memB {a : Nat × Nat} {b o s n : Nat} (h : a ∈ rowA b o s n) : a.1 = b /\ ∃ i, a.2 = o + i * 4 := by
 unfold rowA at h
 obtain ⟨i, -, rfl⟩ := List.mem_map.1 h
 exact ⟨rfl, i, rfl⟩
section
variable {w0 : World} {N bb bo : Nat} {OC : Nat -> Option Value} {RF : Nat -> Option Obj} {vo vd : Value} {NL : List (Int × Nat × Nat)} {DL ks : List TV} {w : World}
theorem BdM.fold (h : BdM w0 N bb bo OC RF vo vd NL (DL ++ ks) w) (t : TV) (ht : t.kids = ks) (hkr : KRow w t.ka ks)
  (hrow : ks ≠ [] -> ∃ b cs, t.ka = some ⟨b, 0, none⟩ /\ N <= b /\ b ≠ bb /\ vd.ownBlock ≠ some b /\ (∀ a ∈ inR (DL ++ ks), a.1 ≠ b) /\ w.heap[b]? = some (.cells cs 32))
  {w5 : World} {v' vp : Value} (hvp : vp.ownBlock = vd.ownBlock) (hg : Grew w w5 vp v') (ro : TRo w5 v' (DL ++ [t])) : BdM w0 N bb bo OC RF vo v' NL (DL ++ [t]) (w5.setCell ⟨bb, bo + 1, none⟩ v') := by
 have nz := h.nz
 have kp : ∀ j o, w.heap[j]? = some o -> vd.ownBlock ≠ some j -> w5.heap[j]? = some o := fun j o hj hn => (hg.grown.block j (lt_of_block hj) (by rw [hvp]; exact fun e => hn e.symm)).trans hj
 have ow : ∀ j, v'.ownBlock = some j -> vd.ownBlock = some j ∨ w.heap.size <= j := fun j hj => by
  rcases hg.moved with e | ⟨k, e, hk⟩
  ·exact .inl (by rw [<- hvp, <- e]; exact hj)
  ·rw [e] at hj; cases hj; exact .inr hk
 have hB : Below N w0 w5 := ⟨hg.grown.os.trans h.bel.os, hg.grown.tape.trans h.bel.tape, hg.grown.output.trans h.bel.output, Nat.le_trans h.bel.size hg.grown.size, fun j hj => (hg.grown.block j (by omega) (by rw [hvp]; intro e; have := h.od j e.symm; omega)).trans (h.bel.block j hj)⟩
 have old : ∀ u ∈ DL ++ ks, TAt w5 u := fun u hu => by
  refine keep_at u 0 0 (h.tr u hu) fun a ha => ?_
  obtain ⟨-, -, nv, cs, hc⟩ := h.ad a (List.mem_flatMap.2 ⟨u, hu, ha⟩)
  have h5 := kp _ _ hc nv
  exact ⟨lt_of_block h5, fun i _ => World.cell?_of_block (h5.trans hc.symm)⟩
 have hrA : ∀ a ∈ adsL (kidsA t), a ∈ inR ks ∨ ∃ b, t.ka = some ⟨b, 0, none⟩ /\ a ∈ rowA b 0 0 ks.length := fun a ha => by
  by_cases hk : ks = []
  ·subst hk
   unfold kidsA at ha
   rw [ht] at ha
   simp [kidF, adsL] at ha
  ·obtain ⟨b, cs, e, -⟩ := hrow hk
   have e1 : kidsA t = kidF b 0 0 ks := by unfold kidsA kadr; rw [ht, e]
   have hc := List.count_pos_iff.2 ha
   rw [e1, cnt_row] at hc
   by_cases hr : a ∈ rowA b 0 0 ks.length
   ·exact .inr ⟨b, e, hr⟩
   ·rw [List.count_eq_zero_of_not_mem hr] at hc
    rw [Nat.zero_add] at hc
    exact .inl (List.count_pos_iff.1 hc)
 have one : ∀ a ∈ inR (DL ++ ks), N <= a.1 /\ a.2 % 4 = 0 /\ v'.ownBlock ≠ some a.1 /\ a.1 ≠ bb /\ ∃ cs, w5.heap[a.1]? = some (.cells cs 32) := fun a ha => by
  obtain ⟨h1, h2, h3, cs, h4⟩ := h.ad a ha
  refine ⟨h1, h2, fun e => ?_, (h.o_a ha).2, cs, kp _ _ h4 h3⟩
  rcases ow _ e with q | q
  ·exact h3 q
  ·have := lt_of_block h4; omega
 refine h.setD hB hg.grown.size kp ro ow (fun u hu => ?_) (fun a ha => ?_) fun a => ?_
 ·rcases List.mem_append.1 hu with hu | hu
  ·exact old u (List.mem_append_left _ hu)
  ·rw [List.mem_singleton.1 hu]
   refine TAt.mk t ?_ fun k hk => old k (List.mem_append_right _ (by rw [<- ht]; exact hk))
   intro hne
   rw [ht] at hne ⊢
   obtain ⟨b, cs, e, -, -, nv, -, hc⟩ := hrow hne
   obtain ⟨b', off, e', hl, hcell⟩ := hkr hne
   rw [e] at e'
   simp only [Option.some.injEq, Addr.mk.injEq] at e'
   obtain ⟨rfl, rfl, -⟩ := e'
   have h5 := kp _ _ hc nv
   have ec : ∀ o, w5.cell? ⟨b, o, none⟩ = w.cell? ⟨b, o, none⟩ := fun o => World.cell?_of_block (h5.trans hc.symm)
   refine ⟨b, 0, e, lt_of_block h5, fun i hi => ?_⟩
   rw [ec, ec, ec, ec]
   exact hcell i hi
 ·rw [inR_app] at ha
  rcases List.mem_append.1 ha with ha | ha
  ·exact one a (by rw [inR_app]; exact List.mem_append_left _ ha)
  ·have ha' : a ∈ adsL (kidsA t) := by simpa [inR] using ha
   rcases hrA a ha' with ha | ⟨b, e, ha⟩
   ·exact one a (by rw [inR_app]; exact List.mem_append_right _ ha)
   ·have hk : ks ≠ [] := fun e => by subst e; simp [rowA] at ha
    obtain ⟨b', cs, e', h1, h2, h3, -, h4⟩ := hrow hk
    rw [e] at e'
    simp only [Option.some.injEq, Addr.mk.injEq, and_true] at e'
    subst e'
    obtain ⟨ea, i, eo⟩ := row_memB ha
    rw [ea, eo]
    refine ⟨h1, by omega, fun q => ?_, h2, cs, kp _ _ h4 h3⟩
    rcases ow _ q with q | q
    ·exact h3 q
    ·have := lt_of_block h4; omega
 ·have hd := h.dn a
  rw [inR_app, List.count_append] at hd ⊢
  have e0 : inR [t] = adsL (kidsA t) := by simp [inR]
  rw [e0]
  by_cases hk : ks = []
  ·have e1 : kidsA t = [] := by unfold kidsA; rw [ht, hk]; rfl
   rw [e1]
   simp only [adsL, List.flatMap_nil, List.count_nil]
   omega
  ·obtain ⟨b, cs, e, -, -, -, hn, -⟩ := hrow hk
   have e1 : kidsA t = kidF b 0 0 ks := by unfold kidsA kadr; rw [ht, e]
   have e2 : inL ks = inR ks := rfl
   rw [e1, cnt_row, e2]
   have hr := row_one a b 0 ks.length 0
   by_cases hm : a ∈ rowA b 0 0 ks.length
   ·have hab := (row_memB hm).1
    have n1 : a ∉ inR DL := fun q => hn a (by rw [inR_app]; exact List.mem_append_left _ q) hab
    have n2 : a ∉ inR ks := fun q => hn a (by rw [inR_app]; exact List.mem_append_right _ q) hab
    rw [List.count_eq_zero_of_not_mem n1, List.count_eq_zero_of_not_mem n2]
    omega
   ·rw [List.count_eq_zero_of_not_mem hm]
    omega
end
end Go.Proofs.YtobhemaikomdaaaGreatDoor
