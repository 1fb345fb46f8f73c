import Derived.Test.YtccednepbkjajaaPTCuToTCy
namespace Go.Proofs.Ytccednepbkjajaa
set_option linter.unusedVariables false
open Go.RowKit
def frO (t : TV) : Nat × Nat := ((kadr t).1, t.kids.length)
structure CpJ (r : Nat) (ob : Obj) (N : Nat) (w0 : World) (p0 q0 : Nat) (t : TV) (T : TV) (m : Nat) (w : World) : Prop where
 bel : Below N w0 w
 nz : N <= w.heap.size
 sz : szT t <= 100000000
 tb : TBx w p0 q0 T
 ta : TAt w T
 sam : samV t T
 cn : ∀ a, N <= a.1 -> (adsT p0 q0 T).count a <= 1
 ty : ∀ a ∈ adsT p0 q0 T, N <= a.1 -> a.2 % 4 = 0 /\ ∃ cs, w.heap[a.1]? = some (.cells cs 31)
 fr : ∀ x ∈ ((preT T).map frO).take m, x.2 ≠ 0 -> N <= x.1
 rs : ¬ Stp ob
 rb : w.heap[r]? = some ob
 rn : ∀ a ∈ adsT p0 q0 T, a.1 ≠ r
theorem not_stpT {cs : Array Value} : ¬ Stp (.cells cs 31) := not_stp (by decide)
theorem CpJ.still {r : Nat} {ob : Obj} {N : Nat} {w0 : World} {p0 q0 : Nat} {t T : TV} {m : Nat} {w w' : World} (h : CpJ r ob N w0 p0 q0 t T m w) (hn : NoStp N w w') : CpJ r ob N w0 p0 q0 t T m w' := by
 have hk : ∀ a ∈ adsT p0 q0 T, w'.heap[a.1]? = w.heap[a.1]? := fun a ha => by
  have hl := ads_lt h.tb h.ta ha
  obtain ⟨o, ho⟩ : ∃ o, w.heap[a.1]? = some o := ⟨_, Array.getElem?_eq_getElem hl⟩
  rw [ho]
  refine hn.keep _ _ ho fun ⟨h1, h2⟩ => ?_
  obtain ⟨_, cs, hc⟩ := h.ty a ha h1
  rw [ho] at hc
  cases hc
  exact not_stpT h2
 have hc : ∀ a ∈ adsT p0 q0 T, C4 w w' a := fun a ha => ⟨Nat.lt_of_lt_of_le (ads_lt h.tb h.ta ha) hn.size, fun j _ => World.cell?_of_block (hk a ha)⟩
 refine ⟨⟨hn.os.trans h.bel.os, hn.tape.trans h.bel.tape, hn.output.trans h.bel.output, Nat.le_trans h.bel.size hn.size, fun j hj => ?_⟩, Nat.le_trans h.nz hn.size, h.sz, (hc _ (adsT_root _ _ _)).tbx h.tb, keep_at T p0 q0 h.ta fun a ha => hc a (by rw [adsT_eq]; exact List.mem_cons_of_mem _ ha), h.sam, h.cn, fun a ha hN => ?_, h.fr, h.rs, hn.keep _ _ h.rb fun ⟨_, x⟩ => h.rs x, h.rn⟩
 ·have hl := Nat.lt_of_lt_of_le hj h.nz
  obtain ⟨o, ho⟩ : ∃ o, w.heap[j]? = some o := ⟨_, Array.getElem?_eq_getElem hl⟩
  rw [hn.keep j o ho fun ⟨h1, _⟩ => by omega, <- ho]
  exact h.bel.block j hj
 ·rw [hk a ha]; exact h.ty a ha hN
theorem row_krow {w w' : World} {n b c : Nat} {l : List TV} (h : w.ownsRow n 31 4 (.slice (some ⟨b, 0, none⟩) l.length c) l.length (l.flatMap trCells)) (hne : l ≠ []) (hk : w'.heap[b]? = w.heap[b]?) (hs : w.heap.size <= w'.heap.size) : KRow w' (some ⟨b, 0, none⟩) l /\ ∃ cs, w'.heap[b]? = some (.cells cs 31) := by
 rcases h.2 with ⟨e, _⟩ | ⟨g, cap, cur, e, h1, h2, h3, h4, h5, h6⟩
 ·cases e
 ·cases e
  have hg : w'.heap[b]? = some (.cells cur 31) := by rw [hk]; exact h2
  refine ⟨fun _ => ⟨b, 0, rfl, lt_of_block hg, fun i hi => ?_⟩, cur, hg⟩
  have eg : l.getD i .none = l[i] := by simp [List.getD, hi]
  have hc : ∀ j, j < 4 -> w'.cell? ⟨b, 0 + i * 4 + j, none⟩ = (trCells l[i])[j]? := fun j hj => by
   rw [cellq_any hg, <- fm_get (k := 4) (fun _ => rfl) l i hi j hj, <- h6, Nat.zero_add]
   rw [List.getElem?_take, if_pos (by omega)]
   simp
  rw [eg]
  have c0 := hc 0 (by omega)
  have c1 := hc 1 (by omega)
  have c2 := hc 2 (by omega)
  have c3 := hc 3 (by omega)
  exact ⟨c0, c1, c2, c3⟩
theorem kidF_fst {b o : Nat} {x : Nat × Nat × TV} : ∀ {i : Nat} {l : List TV}, x ∈ kidF b o i l -> x.1 = b
 | _, [], h => by cases h
 | i, k :: l, h => by
  rcases List.mem_cons.1 h with rfl | h
  ·rfl
  ·exact kidF_fst h
theorem rows_from {N : Nat} (t : TV) : (∀ x ∈ (preT t).map frO, x.2 ≠ 0 -> N <= x.1) -> ∀ a ∈ adsL (kidsA t), N <= a.1 := by
 induction t using TV.ind with
 | _ t ih =>
  intro h a ha
  obtain ⟨x, hx, hxa⟩ := List.mem_flatMap.1 ha
  have hxk := kidF_mem hx
  rw [adsT_eq] at hxa
  rcases List.mem_cons.1 hxa with rfl | hxa
  ·have h0 := h (frO t) (by rw [preT_eq]; simp) (fun e => by
    have : t.kids.length = 0 := e
    rw [List.eq_nil_of_length_eq_zero this] at hxk
    cases hxk)
   have := kidF_fst hx
   show N <= x.1
   rw [this]
   exact h0
  ·refine ih _ hxk (fun y hy => h y ?_) a hxa
   rw [preT_eq]
   obtain ⟨z, hz, rfl⟩ := List.mem_map.1 hy
   exact List.mem_map.2 ⟨z, List.mem_cons_of_mem _ (List.mem_flatMap.2 ⟨_, hxk, hz⟩), rfl⟩
theorem nu_set : ∀ (π : List Nat) (t u : TV), okP π t -> nuP π (setAt π t u) = nuP π t
 | [], _, _, _ => rfl
 | i :: π, t, u, ⟨hi, hp⟩ => by
  have e : ∀ k, (t.sk (t.kids.set i k)).kids.take i = t.kids.take i := fun k => by
   show (t.kids.set i k).take i = _
   rw [List.take_set, List.set_eq_of_length_le (by simp; omega)]
  rw [setAt, nuP, nuP, kid_set hi, e, nu_set π _ u hp]
structure OwT (N : Nat) (w : World) (T : TV) : Prop where
 ta : TAt w T
 cn : ∀ a, (adsL (kidsA T)).count a <= 1
 ty : ∀ a ∈ adsL (kidsA T), N <= a.1 /\ a.2 % 4 = 0 /\ ∃ cs, w.heap[a.1]? = some (.cells cs 31)
structure CpG where
 T : TV
 m : Nat
 π : List Nat
 n : Nat
 d : Nat
structure CpI (r : Nat) (ob : Obj) (N : Nat) (w0 : World) (p0 q0 : Nat) (t : TV) (x : CpG) (S : List PA) (w : World) : Prop where
 j : CpJ r ob N w0 p0 q0 t x.T x.m w
 s : S = [] /\ x.m = szT x.T /\ x.d = 0 ∨ okP x.π x.T /\ x.n <= (getAt x.π x.T).kids.length /\ x.m = nuP x.π x.T + 1 + szL ((getAt x.π x.T).kids.take x.n) /\ S = stkI x.π p0 q0 x.T ++ [((adP x.π p0 q0 x.T).1, (adP x.π p0 q0 x.T).2, x.n)] /\ x.d = x.π.length + 1
theorem CpI.top {r : Nat} {ob : Obj} {N : Nat} {w0 : World} {p0 q0 : Nat} {t : TV} {x : CpG} {S : List PA} {p q n : Nat} {w : World} (h : CpI r ob N w0 p0 q0 t x (S ++ [(p, q, n)]) w) :
  okP x.π x.T /\ x.n = n /\ n <= (getAt x.π x.T).kids.length /\ x.m = nuP x.π x.T + 1 + szL ((getAt x.π x.T).kids.take n) /\ S = stkI x.π p0 q0 x.T /\ adP x.π p0 q0 x.T = (p, q) /\ x.d = x.π.length + 1 := by
 rcases h.s with ⟨e, _⟩ | ⟨h1, h2, h3, h4, h5⟩
 ·simp at e
 ·have he := List.append_inj' h4 rfl
  have e2 := he.2
  simp only [List.cons.injEq, Prod.mk.injEq, and_true] at e2
  obtain ⟨e3, e4, e5⟩ := e2
  rw [<- e5] at h2 h3
  exact ⟨h1, e5.symm, h2, h3, he.1, Prod.ext e3.symm e4.symm, h5⟩
set_option maxRecDepth 100000 in
set_option maxHeartbeats 2000000 in
theorem walk_C {γ : Type} {N : Nat} {I : γ -> List PA -> World -> Prop} {μ : γ -> Nat} {Post : World -> Prop} {E : FuncId} {ec : Array Value} (hC : WkC N I μ Post E 44 ec #[]) (b0 o0 : Nat) (w : World) (hN : N <= w.heap.size)
  (h0 : Calls Try.prog E (#[.pointer (some ⟨b0, o0, none⟩)] ++ ec) w fun e w' => ∃ r, e = .returned (.bool r) /\ w.heap.size <= w'.heap.size /\ (r = true -> ∃ x, I x [(b0, o0, 0)] w') /\ (r = false -> Post w')) :
  Calls Try.prog 21 #[.pointer (some ⟨b0, o0, none⟩), fnV E ec] w fun e w' => e = .returned (.tuple #[]) /\ Post w' := by
 have CW : Hid (Calls Try.prog 24 #[.pointer (some ⟨b0, o0, none⟩), fnV E ec, fnV 44 #[]] w fun e w' => e = .returned (.tuple #[]) /\ Post w') := walkAround_W hC b0 o0 w hN h0
 clear hC hN h0
 go_enter Try.func21, Try.ntmps21
 go_wp2_with (go_at_call 24; refine CW.out.mono ?_; rintro e w1 ⟨rfl, h1⟩; have R : Hid (Post w1) := h1; clear h1)
 refine bodyPost_end (results_none rfl _ _ _) rfl ?_
 exact ⟨rfl, R.out⟩
theorem kids_lt {w : World} {t : TV} (ht : TAt w t) {a : Nat × Nat} (ha : a ∈ adsL (kidsA t)) : a.1 < w.heap.size := by
 obtain ⟨x, hx, hxa⟩ := List.mem_flatMap.1 ha
 obtain ⟨i, hi, rfl⟩ := List.getElem_of_mem hx
 have hi' : i < t.kids.length := by rw [<- kidF_len (kadr t).1 (kadr t).2 0 t.kids]; exact hi
 obtain ⟨b, off, e, hb⟩ := krow_kid ht.row hi'
 have h := kidsA_get e hi'
 rw [List.getElem?_eq_getElem hi] at h
 rw [Option.some.inj h] at hxa
 exact ads_lt hb (ht.kid _ (List.getElem_mem hi')) hxa
abbrev zTree : Obj := .cells #[.int .i64 0, .int .i64 0, .string ByteArray.empty, .slice none 0 0] 31
theorem CpJ.own {r : Nat} {ob : Obj} {N : Nat} {w0 : World} {p0 q0 : Nat} {t T : TV} {w : World} (h : CpJ r ob N w0 p0 q0 t T (szT T) w) : OwT N w T := by
 have hfr : ∀ x ∈ (preT T).map frO, x.2 ≠ 0 -> N <= x.1 := by
  have := h.fr
  rwa [List.take_of_length_le (by rw [List.length_map, preT_len]; exact Nat.le_refl _)] at this
 have hN := rows_from T hfr
 refine ⟨h.ta, fun a => ?_, fun a ha => ?_⟩
 ·by_cases hm : a ∈ adsL (kidsA T)
  ·have := h.cn a (hN a hm)
   rw [adsT_eq, List.count_cons] at this
   omega
  ·rw [List.count_eq_zero.2 hm]; omega
 ·exact ⟨hN a ha, h.ty a (by rw [adsT_eq]; exact List.mem_cons_of_mem _ ha) (hN a ha)⟩
abbrev set4 (w : World) (b o : Nat) (t : TV) : World := (((w.setCell ⟨b, o, none⟩ (.int .i64 t.prod)).setCell ⟨b, o + 1, none⟩ (.int .i64 t.kind)).setCell ⟨b, o + 2, none⟩ (.string t.tx)).setCell ⟨b, o + 3, none⟩ (.slice t.ka t.kids.length t.kc)
theorem set4_size (w : World) (b o : Nat) (t : TV) : (set4 w b o t).heap.size = w.heap.size := by simp [set4, World.setCell]
theorem set4_other (w : World) (b o : Nat) (t : TV) (j : Nat) (h : j ≠ b) : (set4 w b o t).heap[j]? = w.heap[j]? := by
 unfold set4
 rw [Below.heap_setCell _ _ _ _ h, Below.heap_setCell _ _ _ _ h, Below.heap_setCell _ _ _ _ h, Below.heap_setCell _ _ _ _ h]
theorem set4_ty {w : World} {b : Nat} (o : Nat) (t : TV) {cs : Array Value} {ty : TypeId} (h : w.heap[b]? = some (.cells cs ty)) : ∃ cs', (set4 w b o t).heap[b]? = some (.cells cs' ty) :=
 ⟨_, heap_setCell_same _ b (o + 3) _ _ _ (heap_setCell_same _ b (o + 2) _ _ _ (heap_setCell_same _ b (o + 1) _ _ _ (heap_setCell_same w b o _ _ _ h)))⟩
theorem set4_far (w : World) (b o : Nat) (t : TV) (x : Addr) (h : ∀ j, j < 4 -> x ≠ ⟨b, o + j, none⟩) : (set4 w b o t).cell? x = w.cell? x := by
 have e : ∀ j, j < 4 -> (⟨b, o + j, none⟩ : Addr) ≠ x := fun j hj e => h j hj e.symm
 unfold set4
 rw [World.cell?_setCell_other _ _ _ _ (e 3 (by omega)), World.cell?_setCell_other _ _ _ _ (e 2 (by omega)), World.cell?_setCell_other _ _ _ _ (e 1 (by omega))]
 exact World.cell?_setCell_other _ _ _ _ (e 0 (by omega))
theorem set4_tbx {w : World} {b o : Nat} (t : TV) {v0 v1 v2 v3 : Value} (h0 : w.cell? ⟨b, o, none⟩ = some v0) (h1 : w.cell? ⟨b, o + 1, none⟩ = some v1) (h2 : w.cell? ⟨b, o + 2, none⟩ = some v2) (h3 : w.cell? ⟨b, o + 3, none⟩ = some v3) (hl : b < w.heap.size) : TBx (set4 w b o t) b o t := by
 have n : ∀ i j : Nat, i ≠ j -> (⟨b, o + i, none⟩ : Addr) ≠ ⟨b, o + j, none⟩ := fun i j h e => by simp only [Addr.mk.injEq, and_true, true_and] at e; omega
 have ot : ∀ (w : World) (i j : Nat) (v : Value), i ≠ j -> (w.setCell ⟨b, o + i, none⟩ v).cell? ⟨b, o + j, none⟩ = w.cell? ⟨b, o + j, none⟩ := fun w i j v h => World.cell?_setCell_other _ _ _ _ (n i j h)
 have ot0 : ∀ (w : World) (j : Nat) (v : Value), 0 ≠ j -> (w.setCell ⟨b, o, none⟩ v).cell? ⟨b, o + j, none⟩ = w.cell? ⟨b, o + j, none⟩ := fun w j v h => ot w 0 j v h
 have ot1 : ∀ (w : World) (j : Nat) (v : Value), 0 ≠ j -> (w.setCell ⟨b, o + j, none⟩ v).cell? ⟨b, o, none⟩ = w.cell? ⟨b, o, none⟩ := fun w j v h => ot w j 0 v h.symm
 unfold set4
 refine ⟨by simpa [World.setCell] using hl, ?_, ?_, ?_, ?_⟩
 ·rw [ot1 _ 3 _ (by omega), ot1 _ 2 _ (by omega), ot1 _ 1 _ (by omega)]
  exact World.cell?_setCell_same _ _ _ h0
 ·rw [ot _ 3 1 _ (by omega), ot _ 2 1 _ (by omega)]
  exact World.cell?_setCell_same _ _ _ ((ot0 _ 1 _ (by omega)).trans h1)
 ·rw [ot _ 3 2 _ (by omega)]
  exact World.cell?_setCell_same _ _ _ ((ot _ 1 2 _ (by omega)).trans ((ot0 _ 2 _ (by omega)).trans h2))
 ·exact World.cell?_setCell_same _ _ _ ((ot _ 2 3 _ (by omega)).trans ((ot _ 1 3 _ (by omega)).trans ((ot0 _ 3 _ (by omega)).trans h3)))
theorem set4_below {n : Nat} {w0 w : World} (h : Below n w0 w) {b : Nat} (o : Nat) (t : TV) (hb : n <= b) : Below n w0 (set4 w b o t) :=
 (((h.setCell (p := ⟨b, o, none⟩) hb _).setCell (p := ⟨b, o + 1, none⟩) hb _).setCell (p := ⟨b, o + 2, none⟩) hb _).setCell (p := ⟨b, o + 3, none⟩) hb _
theorem OwT.kept {N : Nat} {w w' : World} {T : TV} (h : OwT N w T) (hk : ∀ a ∈ adsL (kidsA T), w'.heap[a.1]? = w.heap[a.1]?) (hs : w.heap.size <= w'.heap.size) : OwT N w' T :=
 ⟨keep_at T 0 0 h.ta fun a ha => ⟨Nat.lt_of_lt_of_le (kids_lt h.ta ha) hs, fun j _ => World.cell?_of_block (hk a ha)⟩, h.cn, fun a ha => by rw [hk a ha]; exact h.ty a ha⟩
theorem OwT.mono {N N' : Nat} {w : World} {T : TV} (h : OwT N w T) (hn : N' <= N) : OwT N' w T := ⟨h.ta, h.cn, fun a ha => ⟨Nat.le_trans hn (h.ty a ha).1, (h.ty a ha).2⟩⟩
theorem OwT.later {N : Nat} {w w' : World} {T : TV} (h : OwT N w T) (hb : Below w.heap.size w w') : OwT N w' T := h.kept (fun _ ha => hb.block _ (kids_lt h.ta ha)) hb.size
end Go.Proofs.Ytccednepbkjajaa
