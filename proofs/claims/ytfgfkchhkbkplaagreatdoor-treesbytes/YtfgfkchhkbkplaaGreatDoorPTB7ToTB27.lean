import Derived.Test.YtfgfkchhkbkplaaGreatDoorPTB6
import Derived.Test.YtfgfkchhkbkplaaGreatDoorPTRvToTRw
import Derived.Test.YtfgfkchhkbkplaaGreatDoorPTD3ToTSm
import Derived.Test.YtfgfkchhkbkplaaGreatDoorPGDecToGE1
import Derived.Test.YtfgfkchhkbkplaaGreatDoorPGT0ToGT6
namespace Go.Proofs.YtfgfkchhkbkplaaGreatDoor
set_option linter.unusedVariables false
open Go.RowKit
theorem BdS.oc {w0 : World} {N bb bo : Nat} {OC : Nat -> Option Value} {RF : Nat -> Option Obj} {A : AB} {w : World} (h : BdS w0 N bb bo OC RF A w) {o : Nat} (h1 : o ≠ bo) (h2 : o ≠ bo + 1) : w.cell? ⟨bb, o, none⟩ = OC o := by
 obtain ⟨a, b, c, d, e⟩ := h
 exact e.oc o h1 h2
def nxS (db : Nat) (g : GV) (pb po j lb lo : Nat) (ll lc : Nat) (L : Int) (w : World) : Prop := w.cell? ⟨db, 3, none⟩ = some (.slice (some ⟨pb, po, none⟩) g.ps.length g.pc) /\ w.cell? ⟨db, 5, none⟩ = some (.slice (some ⟨lb, lo, none⟩) ll lc) /\ w.cell? ⟨lb, lo, none⟩ = some (.int .i64 (j : Int)) /\ w.cell? ⟨pb, po + j * 3, none⟩ = some (.int .i64 L)
theorem nxS.later {db : Nat} {g : GV} {pb po j lb lo : Nat} {ll lc : Nat} {L : Int} {w w' : World} (h : nxS db g pb po j lb lo ll lc L w) (hb : Below w.heap.size w w') : nxS db g pb po j lb lo ll lc L w' := ⟨cellW hb h.1, cellW hb h.2.1, cellW hb h.2.2.1, cellW hb h.2.2.2⟩
section
variable {w0 : World} {N db : Nat} {RF : Nat -> Option Obj} {w : World} {g : GV} {pa : Option Addr} {pc : Nat} {wl : Value} {u r : Int} {D : List TV}
end
def ntS (db : Nat) (g : GV) (pb po j rb ro i : Nat) (rl rc : Nat) (s1 s2 : Int) (w : World) : Prop := w.cell? ⟨db, 3, none⟩ = some (.slice (some ⟨pb, po, none⟩) g.ps.length g.pc) /\ w.cell? ⟨pb, po + j * 3 + 1, none⟩ = some (.slice (some ⟨rb, ro, none⟩) rl rc) /\ w.cell? ⟨rb, ro + i * 2, none⟩ = some (.int .i64 s1) /\ w.cell? ⟨rb, ro + i * 2 + 1, none⟩ = some (.int .i64 s2)
theorem ntS.later {db : Nat} {g : GV} {pb po j rb ro i : Nat} {rl rc : Nat} {s1 s2 : Int} {w w' : World} (h : ntS db g pb po j rb ro i rl rc s1 s2 w) (hb : Below w.heap.size w w') : ntS db g pb po j rb ro i rl rc s1 s2 w' := ⟨cellW hb h.1, cellW hb h.2.1, cellW hb h.2.2.1, cellW hb h.2.2.2⟩
section
variable {w0 : World} {N db : Nat} {RF : Nat -> Option Obj} {w : World} {g : GV} {pl wl : Value} {u r : Int} {D : List TV}
end
section
variable {w0 : World} {N bb bo : Nat} {OC : Nat -> Option Value} {RF : Nat -> Option Obj} {vo vd : Value} {NL : List (Int × Nat × Nat)} {DL : List TV} {w : World}
end
section
variable {w0 : World} {N db : Nat} {RF : Nat -> Option Obj} {w : World} {g : GV} {pa : Option Addr} {pc : Nat} {wl : Value} {r : Int} {A : AB}
end
def tpS (db : Nat) (g : GV) (pb po n lb lo u ll lc : Nat) (L : Int) (ra : Option Addr) (rl rc : Nat) (w : World) : Prop := w.cell? ⟨db, 3, none⟩ = some (.slice (some ⟨pb, po, none⟩) g.ps.length g.pc) /\ w.cell? ⟨db, 5, none⟩ = some (.slice (some ⟨lb, lo, none⟩) ll lc) /\ w.cell? ⟨db, 7, none⟩ = some (.int .i64 (u : Int)) /\ w.cell? ⟨lb, lo + u, none⟩ = some (.int .i64 (n : Int)) /\ w.cell? ⟨pb, po + n * 3, none⟩ = some (.int .i64 L) /\ w.cell? ⟨pb, po + n * 3 + 1, none⟩ = some (.slice ra rl rc)
theorem tpS.later {db : Nat} {g : GV} {pb po n lb lo u ll lc : Nat} {L : Int} {ra : Option Addr} {rl rc : Nat} {w w' : World} (h : tpS db g pb po n lb lo u ll lc L ra rl rc w) (hb : Below w.heap.size w w') : tpS db g pb po n lb lo u ll lc L ra rl rc w' := ⟨cellW hb h.1, cellW hb h.2.1, cellW hb h.2.2.1, cellW hb h.2.2.2.1, cellW hb h.2.2.2.2.1, cellW hb h.2.2.2.2.2⟩
section
variable {w0 : World} {N db : Nat} {RF : Nat -> Option Obj} {w : World} {g : GV} {pa : Option Addr} {pc : Nat} {wl : Value} {r : Int} {A : AB}
end
def twdS (db : Nat) (xb xo r xl xc : Nat) (tk : Int) (tx : ByteArray) (w : World) : Prop := w.cell? ⟨db, 6, none⟩ = some (.slice (some ⟨xb, xo, none⟩) xl xc) /\ w.cell? ⟨db, 8, none⟩ = some (.int .i64 (r : Int)) /\ w.cell? ⟨xb, xo + r * 2, none⟩ = some (.int .i64 tk) /\ w.cell? ⟨xb, xo + r * 2 + 1, none⟩ = some (.string tx)
theorem twdS.later {db : Nat} {xb xo r xl xc : Nat} {tk : Int} {tx : ByteArray} {w w' : World} (h : twdS db xb xo r xl xc tk tx w) (hb : Below w.heap.size w w') : twdS db xb xo r xl xc tk tx w' := ⟨cellW hb h.1, cellW hb h.2.1, cellW hb h.2.2.1, cellW hb h.2.2.2⟩
section
variable {w0 : World} {N db : Nat} {RF : Nat -> Option Obj} {w : World} {g : GV} {wa : Option Addr} {wc : Nat} {pl : Value} {u : Int} {A : AB}
end
structure DvU where
 u : Nat
 r : Nat
 A : AB
def wholeU (A : AB) : Bool := A.2.isEmpty && !A.1.isEmpty
def OkF (g : GV) (f : FrB) : Prop := 0 <= f.p /\ f.p < g.ps.length /\ f.k = (g.ps.getD f.p.toNat .none).right.length
section
variable {w0 : World} {N db : Nat} {RF : Nat -> Option Obj} {w : World} {g : GV} {pa wa : Option Addr} {pc wc : Nat} {l : List Int} {L : List (Int × ByteArray)} {x : DvU}
end
theorem BdS.bel {w0 : World} {N bb bo : Nat} {OC : Nat -> Option Value} {RF : Nat -> Option Obj} {A : AB} {w : World} (h : BdS w0 N bb bo OC RF A w) : Below N w0 w := by
 obtain ⟨a, b, c, d, e⟩ := h
 exact e.bel
theorem BdS.rf {w0 : World} {N bb bo : Nat} {OC : Nat -> Option Value} {RF : Nat -> Option Obj} {A : AB} {w : World} (h : BdS w0 N bb bo OC RF A w) {j : Nat} {o : Obj} (hj : RF j = some o) : w.heap[j]? = some o := by
 obtain ⟨a, b, c, d, e⟩ := h
 exact (e.rf j o hj).1
theorem whole_W {w0 : World} {N bb bo : Nat} {OC : Nat -> Option Value} {RF : Nat -> Option Obj} {A : AB} {w : World} (h : BdS w0 N bb bo OC RF A w) : Calls Tryz.prog 41 #[.pointer (some ⟨bb, bo, none⟩)] w fun e w' => e = .returned (.bool (wholeU A)) /\ w' = w := by
 obtain ⟨vo, vd, ⟨E, T⟩, ⟨h1, h2⟩, hM⟩ := h
 obtain ⟨D, S⟩ := A
 have := whole_B hM
 have e : decide (nlA (E, T) = [] /\ dlA (E, T) ≠ []) = wholeU (D, S) := by
  cases S with
  | nil =>
   cases T with
   | cons g T => exact h2.elim
   | nil =>
    have hl := h1.1
    dsimp only at hl
    have e1 : nlA (E, []) = [] := rfl
    have e2 : dlA (E, []) = E := by simp [dlA, ksL]
    rw [e1, e2]
    cases E with
    | nil => cases D with
     | nil => rfl
     | cons t D => simp at hl
    | cons t E => cases D with
     | nil => simp at hl
     | cons t D => simp [wholeU]
  | cons f S =>
   cases T with
   | nil => exact h2.elim
   | cons g T => rw [nlA_cons]; simp [wholeU]
 rw [e] at this
 exact this
def mirF : Nat -> TV -> TV
 | 0, t => t
 | n + 1, t => t.sk ((t.kids.map (mirF n)).reverse)
def mirT (t : TV) : TV := mirF (tsz t) t
theorem mp_congr {α β : Type} {f f' : α -> β} : ∀ (l : List α), (∀ x ∈ l, f x = f' x) -> l.map f = l.map f'
 | [], _ => rfl
 | x :: l, h => by rw [List.map_cons, List.map_cons, h x (List.mem_cons_self ..), mp_congr l (fun y hy => h y (List.mem_cons_of_mem _ hy))]
theorem sg_parts {t u : TV} (h : sgV t = sgV u) : t.prod = u.prod /\ t.kind = u.kind /\ t.tx = u.tx /\ t.kids.length = u.kids.length := by
 unfold sgV at h
 simpa only [Prod.mk.injEq] using h
theorem samV_kids {t u : TV} (h : samV t u) : samL t.kids u.kids := by
 obtain ⟨h1, h2⟩ := (samV_iff _ _).1 h
 exact ⟨sgV_len h1, h2⟩
def finT : List Nat -> Nat -> TV -> TV
 | [], n, T => T.sk (T.kids.take n ++ (T.kids.drop n).map mirT)
 | i :: π, n, T => T.sk (T.kids.take i ++ finT π n (T.kids.getD i .none) :: (T.kids.drop (i + 1)).map mirT)
structure RvJ (r : Nat) (ob : Obj) (N : Nat) (w0 : World) (p0 q0 : Nat) (T : TV) (w : World) : Prop where
 bel : Below N w0 w
 nz : N <= w.heap.size
 sz : szT T <= 100000000
 tb : TBx w p0 q0 T
 ta : TAt w T
 cn : ∀ a, (adsT p0 q0 T).count a <= 1
 ty : ∀ a ∈ adsT p0 q0 T, N <= a.1 /\ a.2 % 4 = 0 /\ ∃ cs, w.heap[a.1]? = some (.cells cs 26)
 rs : ¬ Stp ob
 rb : w.heap[r]? = some ob
 rn : ∀ a ∈ adsT p0 q0 T, a.1 ≠ r
theorem RvJ.still {r : Nat} {ob : Obj} {N : Nat} {w0 : World} {p0 q0 : Nat} {T : TV} {w w' : World} (h : RvJ r ob N w0 p0 q0 T w) (hn : NoStp N w w') : RvJ r ob N w0 p0 q0 T w' := by
 have hk : ∀ a ∈ adsT p0 q0 T, w'.heap[a.1]? = w.heap[a.1]? := fun a ha => by
  have hl := ads_lt h.tb h.ta ha
  obtain ⟨o, ho⟩ : ∃ o, w.heap[a.1]? = some o := ⟨_, Array.getElem?_eq_getElem hl⟩
  rw [ho]
  refine hn.keep _ _ ho fun ⟨h1, h2⟩ => ?_
  obtain ⟨_, _, cs, hc⟩ := h.ty a ha
  rw [ho] at hc
  cases hc
  exact not_stpT h2
 have hc : ∀ a ∈ adsT p0 q0 T, C4 w w' a := fun a ha => ⟨Nat.lt_of_lt_of_le (ads_lt h.tb h.ta ha) hn.size, fun j _ => World.cell?_of_block (hk a ha)⟩
 refine ⟨⟨hn.os.trans h.bel.os, hn.tape.trans h.bel.tape, hn.output.trans h.bel.output, Nat.le_trans h.bel.size hn.size, fun j hj => by
  have hl := Nat.lt_of_lt_of_le hj h.nz
  obtain ⟨o, ho⟩ : ∃ o, w.heap[j]? = some o := ⟨_, Array.getElem?_eq_getElem hl⟩
  rw [hn.keep j o ho fun ⟨h1, _⟩ => by omega, <- ho]
  exact h.bel.block j hj⟩, Nat.le_trans h.nz hn.size, h.sz, (hc _ (adsT_root _ _ _)).tbx h.tb, keep_at T p0 q0 h.ta fun a ha => hc a (by rw [adsT_eq]; exact List.mem_cons_of_mem _ ha), h.cn, fun a ha => ?_, h.rs, hn.keep _ _ h.rb fun ⟨_, x⟩ => h.rs x, h.rn⟩
 rw [hk a ha]; exact h.ty a ha
structure RvI (r : Nat) (ob : Obj) (N : Nat) (w0 : World) (p0 q0 : Nat) (M : TV) (x : CpG) (S : List PA) (w : World) : Prop where
 j : RvJ r ob N w0 p0 q0 x.T w
 s : S = [] /\ samV x.T M /\ x.m = szT x.T /\ x.d = 0 ∨ okP x.π x.T /\ x.n <= (getAt x.π x.T).kids.length /\ x.m = nuP x.π x.T + 1 + szL ((getAt x.π x.T).kids.take x.n) /\ S = stkI x.π p0 q0 x.T ++ [((adP x.π p0 q0 x.T).1, (adP x.π p0 q0 x.T).2, x.n)] /\ x.d = x.π.length + 1 /\ samV (finT x.π x.n x.T) M
theorem RvI.top {r : Nat} {ob : Obj} {N : Nat} {w0 : World} {p0 q0 : Nat} {M : TV} {x : CpG} {S : List PA} {p q n : Nat} {w : World} (h : RvI r ob N w0 p0 q0 M x (S ++ [(p, q, n)]) w) :
  okP x.π x.T /\ x.n = n /\ n <= (getAt x.π x.T).kids.length /\ x.m = nuP x.π x.T + 1 + szL ((getAt x.π x.T).kids.take n) /\ S = stkI x.π p0 q0 x.T /\ adP x.π p0 q0 x.T = (p, q) /\ x.d = x.π.length + 1 /\ samV (finT x.π n x.T) M := by
 rcases h.s with ⟨e, _⟩ | ⟨h1, h2, h3, h4, h5, h6⟩
 ·simp at e
 ·have he := List.append_inj' h4 rfl
  have e2 := he.2
  simp only [List.cons.injEq, Prod.mk.injEq, and_true] at e2
  obtain ⟨e3, e4, e5⟩ := e2
  rw [<- e5] at h2 h3 h6
  exact ⟨h1, e5.symm, h2, h3, he.1, Prod.ext e3.symm e4.symm, h5, h6⟩
def szF (S : List FrB) : Nat := (S.map fun f => 1 + szL f.ks).sum
def szA (A : AB) : Nat := szL A.1 + szF A.2
theorem szF_cons (f : FrB) (S : List FrB) : szF (f :: S) = 1 + szL f.ks + szF S := by simp [szF]
theorem szT_nd (f : FrB) : szT (ndT f) = 1 + szL f.ks := by
 rw [szT_eq]
 show szL f.ks + 1 = _
 omega
theorem szL_snoc (l : List TV) (t : TV) : szL (l ++ [t]) = szL l + szT t := by
 rw [szL_app, szL_cons]
 have : szL [] = 0 := rfl
 omega
theorem szA_ad (A : AB) (t : TV) : szA (adA A t) = szA A + szT t := by
 obtain ⟨D, S⟩ := A
 cases S with
 | nil =>
  show szL (D ++ [t]) + szF [] = szL D + szF [] + szT t
  rw [szL_snoc]; omega
 | cons f S =>
  show szL D + szF (⟨f.p, f.k, f.ks ++ [t]⟩ :: S) = szL D + szF (f :: S) + szT t
  rw [szF_cons, szF_cons, szL_snoc]; omega
theorem szA_cl : ∀ (S : List FrB) (D : List TV), szA (clU2 (D, S)) = szA (D, S)
 | [], D => by rw [clU2_nil]
 | f :: S, D => by
  rw [clU2_cons]
  by_cases hk : f.ks.length = f.k
  ·rw [if_pos hk]
   have e : szA (adA (D, S) (ndT f)) = szA (D, f :: S) := by
    rw [szA_ad, szT_nd]
    show szL D + szF S + (1 + szL f.ks) = szL D + szF (f :: S)
    rw [szF_cons]; omega
   rw [<- e]
   cases S with
   | nil => exact szA_cl [] _
   | cons g' S => exact szA_cl (⟨g'.p, g'.k, g'.ks ++ [ndT f]⟩ :: S) D
  ·rw [if_neg hk]
termination_by S => S.length
theorem szA_clU (A : AB) : szA (clU2 A) = szA A := szA_cl A.2 A.1
structure MrJ (W : World) (l : List Int) (L : List (Int × ByteArray)) (t0 : TV) (A : Nat) (x y : Option Addr × Nat) (T : TV) (b : Option Nat) (w' : World) : Prop where
 bel : Below W.heap.size W w'
 x1 : 1 <= A -> InRow w' x.1 l.reverse
 y2 : 2 <= A -> TkRow w' y.1 L.reverse
 t3 : 3 <= A -> samV T t0 /\ OwT W.heap.size w' T
 b4 : ∀ k, b = some k -> w'.heap[k]? = some zTrB /\ W.heap.size <= k /\ (3 <= A -> ∀ a ∈ adsL (kidsA T), a.1 ≠ k)
theorem MrJ.later {W : World} {l : List Int} {L : List (Int × ByteArray)} {t0 : TV} {A : Nat} {x y : Option Addr × Nat} {T : TV} {b : Option Nat} {w w' : World} (h : MrJ W l L t0 A x y T b w) (hb : Below w.heap.size w w') : MrJ W l L t0 A x y T b w' :=
 ⟨h.bel.trans (hb.mono h.bel.size), fun hA => (h.x1 hA).later hb, fun hA => (h.y2 hA).later hb, fun hA => ⟨(h.t3 hA).1, (h.t3 hA).2.later hb⟩, fun k e => ⟨(hb.block _ (lt_of_block (h.b4 k e).1)).trans (h.b4 k e).1, (h.b4 k e).2⟩⟩
theorem MrJ.one {W : World} {l : List Int} {L : List (Int × ByteArray)} {t0 : TV} {x y : Option Addr × Nat} {T : TV} {b : Option Nat} {w w' : World} {a : Option Addr} {c : Nat} (h : MrJ W l L t0 0 x y T b w) (hr : InRow w' a l.reverse) (hb : Below w.heap.size w w') : MrJ W l L t0 1 (a, c) y T b w' := by
 have k := h.later hb
 exact ⟨k.bel, fun _ => hr, (fun h => by omega), (fun h => by omega), fun j e => ⟨(k.b4 j e).1, (k.b4 j e).2.1, fun h => by omega⟩⟩
theorem MrJ.two {W : World} {l : List Int} {L : List (Int × ByteArray)} {t0 : TV} {x y : Option Addr × Nat} {T : TV} {b : Option Nat} {w w' : World} {a : Option Addr} {c : Nat} (h : MrJ W l L t0 1 x y T b w) (hr : TkRow w' a L.reverse) (hb : Below w.heap.size w w') : MrJ W l L t0 2 x (a, c) T b w' := by
 have k := h.later hb
 exact ⟨k.bel, fun _ => k.x1 (by omega), fun _ => hr, (fun h => by omega), fun j e => ⟨(k.b4 j e).1, (k.b4 j e).2.1, fun h => by omega⟩⟩
theorem MrJ.three {W : World} {l : List Int} {L : List (Int × ByteArray)} {t0 : TV} {x y : Option Addr × Nat} {T T' : TV} {b : Option Nat} {w w' : World} (h : MrJ W l L t0 2 x y T b w) (hb : Below w.heap.size w w') (sm : samV T' t0) (ow : OwT w.heap.size w' T') : MrJ W l L t0 3 x y T' b w' := by
 have k := h.later hb
 refine ⟨k.bel, fun _ => k.x1 (by omega), fun _ => k.y2 (by omega), fun _ => ⟨sm, ow.mono h.bel.size⟩, fun j e => ⟨(k.b4 j e).1, (k.b4 j e).2.1, fun _ a ha ej => ?_⟩⟩
 have h1 := (ow.ty a ha).1
 have h2 := lt_of_block (h.b4 j e).1
 omega
theorem MrJ.box {W : World} {l : List Int} {L : List (Int × ByteArray)} {t0 : TV} {A : Nat} {x y : Option Addr × Nat} {T : TV} {w : World} (h : MrJ W l L t0 A x y T none w) : MrJ W l L t0 A x y T (some w.heap.size) (w.alloc zTrB) := by
 have k := h.later (below_alloc w zTrB)
 refine ⟨k.bel, k.x1, k.y2, k.t3, fun j e => ?_⟩
 cases e
 refine ⟨heap_alloc_new _ _, h.bel.size, fun hA a ha ej => ?_⟩
 have := kids_lt (h.t3 hA).2.ta ha
 omega
theorem fm_pt {β : Type} {f : TV -> List β} : ∀ {l m : List TV}, l.length = m.length -> (∀ i (h : i < l.length) (h' : i < m.length), f l[i] = f m[i]) -> l.flatMap f = m.flatMap f
 | [], [], _, _ => rfl
 | [], _ :: _, h, _ => by simp at h
 | _ :: _, [], h, _ => by simp at h
 | a :: l, b :: m, h, hf => by
  rw [List.flatMap_cons, List.flatMap_cons, fm_pt (l := l) (m := m) (by simpa using h) fun i h1 h2 => hf (i + 1) (by simpa using h1) (by simpa using h2)]
  have := hf 0 (by simp) (by simp)
  simp only [List.getElem_cons_zero] at this
  rw [this]
def Gd1 (g : GV) (x : TV) : Prop := alTU g x = 0 /\ (x.prod ≠ -1 -> x.kids.map (rootU g) = rightU g x)
def GdT (g : GV) (t : TV) : Prop := AllP (Gd1 g) t
def rgP (g : GV) (p : Int) : List (Int × Int) := (g.ps.getD p.toNat .none).right
def lfP (g : GV) (p : Int) : Int := (g.ps.getD p.toNat .none).left
structure FOk (g : GV) (f : FrB) : Prop where
 ok : OkF g f
 rt : f.ks.map (rootU g) = (rgP g f.p).take f.ks.length
 gd : ∀ k ∈ f.ks, GdT g k
def lnk (g : GV) (f : FrB) : List FrB -> Prop
 | [] => True
 | f' :: _ => (rgP g f'.p)[f'.ks.length]? = some (2, lfP g f.p)
def WfS (g : GV) : List FrB -> Prop
 | [] => True
 | f :: S => FOk g f /\ lnk g f S /\ WfS g S
theorem WfS.pos {g : GV} : ∀ {S : List FrB}, WfS g S -> ∀ f ∈ S, 0 <= f.p
 | [], _, f, hf => by cases hf
 | f' :: S, h, f, hf => by
  rcases List.mem_cons.1 hf with rfl | hf
  ·exact h.1.ok.1
  ·exact WfS.pos h.2.2 f hf
theorem FOk.tree {g : GV} {f : FrB} (h : FOk g f) (hk : f.ks.length = f.k) : GdT g (ndT f) /\ rootU g (ndT f) = (2, lfP g f.p) := by
 obtain ⟨h1, h2, h3⟩ := h.ok
 have hr : f.ks.map (rootU g) = rgP g f.p := by
  rw [h.rt, hk, h3]
  exact List.take_length
 have hl : f.ks.length = (rgP g f.p).length := by rw [<- hr, List.length_map]
 have e1 : (ndT f).prod = f.p := rfl
 have e2 : (ndT f).kind = 0 := rfl
 have e3 : (ndT f).tx = ByteArray.empty := rfl
 have e4 : (ndT f).kids = f.ks := rfl
 have e5 : rightU g (ndT f) = rgP g f.p := rfl
 refine ⟨AllP.mk ⟨?_, fun _ => by rw [e4, e5]; exact hr⟩ (by rw [e4]; exact h.gd), ?_⟩
 ·unfold alTU
  rw [e1, e2, e3, e4, e5, if_neg (by omega), if_neg]
  simp only [not_or, Decidable.not_not]
  refine ⟨by omega, by omega, trivial, ?_, hl⟩
  rw [ByteArray.toList_eq]; rfl
 ·unfold rootU
  rw [e1, if_neg (by omega), if_pos ⟨h1, h2⟩]
  rfl
theorem FOk.add {g : GV} {f : FrB} (h : FOk g f) {t : TV} (ht : GdT g t) (hr : (rgP g f.p)[f.ks.length]? = some (rootU g t)) : FOk g ⟨f.p, f.k, f.ks ++ [t]⟩ := by
 refine ⟨h.ok, ?_, fun k hk => ?_⟩
 ·show (f.ks ++ [t]).map (rootU g) = (rgP g f.p).take (f.ks ++ [t]).length
  rw [List.map_append, h.rt, List.length_append, List.length_singleton, List.take_add_one, hr]
  rfl
 ·rcases List.mem_append.1 hk with hk | hk
  ·exact h.gd k hk
  ·simp only [List.mem_cons, List.not_mem_nil, or_false] at hk
   rw [hk]; exact ht
theorem WfS.add {g : GV} {S : List FrB} {t : TV} (h : WfS g S) (ht : GdT g t) (hl : ∀ f ∈ S.head?, (rgP g f.p)[f.ks.length]? = some (rootU g t)) : WfS g (adA ([], S) t).2 := by
 cases S with
 | nil => exact trivial
 | cons f S =>
  obtain ⟨h1, h2, h3⟩ := h
  refine ⟨h1.add ht (hl f (by simp)), ?_, h3⟩
  cases S with
  | nil => trivial
  | cons f' S => exact h2
def clnF : Nat -> TV -> TV
 | 0, t => t
 | n + 1, t => if t.prod = -1 then lfT t.kind t.tx else ndT ⟨t.prod, 0, t.kids.map (clnF n)⟩
def cln (t : TV) : TV := clnF (tsz t) t
theorem clnF_any : ∀ (n m : Nat) (t : TV), tsz t <= n -> tsz t <= m -> clnF n t = clnF m t
 | 0, _, t, h, _ => by have := tsz_pos t; omega
 | _ + 1, 0, t, _, h => by have := tsz_pos t; omega
 | n + 1, m + 1, t, h, h' => by
  rw [clnF, clnF]
  congr 3
  exact mp_congr _ fun k hk => clnF_any n m k (by have := kid_lt hk; omega) (by have := kid_lt hk; omega)
theorem cln_eq (t : TV) : cln t = if t.prod = -1 then lfT t.kind t.tx else ndT ⟨t.prod, 0, t.kids.map cln⟩ := by
 obtain ⟨n, hn⟩ : ∃ n, tsz t = n + 1 := ⟨tsz t - 1, by have := tsz_pos t; omega⟩
 conv => lhs; unfold cln
 rw [hn, clnF]
 congr 3
 exact mp_congr _ fun k hk => clnF_any _ _ k (by have := kid_lt hk; omega) (Nat.le_refl _)
theorem ba_nil {x : ByteArray} (h : x.toList = []) : x = ByteArray.empty := by
 rw [ByteArray.toList_eq] at h
 exact ByteArray.ext (Array.toList_inj.1 h)
theorem drop_app {β : Type} {l a b : List β} {u : Nat} (h : l.drop u = a ++ b) : l.drop (u + a.length) = b := by
 rw [<- List.drop_drop, h, List.drop_left]
end Go.Proofs.YtfgfkchhkbkplaaGreatDoor
