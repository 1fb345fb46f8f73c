import Derived.Test.YtobhemaikomdaaaGreatDoorPTCzToTD2
namespace Go.Proofs.YtobhemaikomdaaaGreatDoor
set_option linter.unusedVariables false
open Go.RowKit
theorem step_storeO {ops : Array Oper} {o : Oper} {a : Act} {w : World} {K : Act -> World -> Prop} {Q : Exit -> Act -> World -> Prop} {E : Prop} (hg : o.guard = none) (ty : TypeId) (x y : Operand) (hop : o.op = .store ty x y) (b off : Nat) (cells : Array Value) (hx : a.eval x = .pointer (some ⟨b, off, none⟩)) (hy : a.eval y = .agg cells)
  (ht : w.there b off cells.size) (hi : (Tryz.prog.info? ty).map (·.size) = some cells.size) (h1 : cells.all (·.oneCell') = true) (hK : K (a.put o.dst undef) (w.setCells b off cells.toList)) : if Region.wanted o (yielded ops a.tmps) = true then Oper.wp Tryz.prog o a w K Q else E := by
 have hw : Region.wanted o (yielded ops a.tmps) = true := by simp [Region.wanted, hg]
 rw [if_pos hw]
 exact wp_store_mid ty x y hop b off cells hx hy ht hi h1 hK
theorem tbx_there {w : World} {b o : Nat} {t : TV} {cs : Array Value} (h : TBx w b o t) (hty : w.heap[b]? = some (.cells cs 32)) : w.there b o 4 := fun j hj => by
 have : j = 0 ∨ j = 1 ∨ j = 2 ∨ j = 3 := by omega
 refine ⟨?_, by simp [World.frozen?, hty]⟩
 rcases this with rfl | rfl | rfl | rfl
 ·rw [Nat.add_zero, h.c0]; rfl
 ·rw [h.c1]; rfl
 ·rw [h.c2]; rfl
 ·rw [h.c3]; rfl
structure GfS (n : Nat) (w0 : World) (t s : TV) (w : World) : Prop where
 bel : Below n w0 w
 tt : TBx w n 0 t
 st : TBx w (n + 1) 0 s
 ta : TAt w t
 sa : TAt w s
 rz : w.heap[n + 1 + 1]? = some zTree
theorem GfS.later {n : Nat} {w0 : World} {t s : TV} {w w' : World} (h : GfS n w0 t s w) (hn : n <= w.heap.size) (hb : Below w.heap.size w w') : GfS n w0 t s w' :=
 ⟨h.bel.trans (hb.mono hn), h.tt.later hb, h.st.later hb, h.ta.later hb, h.sa.later hb, (hb.block _ (lt_of_block h.rz)).trans h.rz⟩
theorem GfS.sz {n : Nat} {w0 : World} {t s : TV} {w : World} (h : GfS n w0 t s w) : n + 2 < w.heap.size := lt_of_block h.rz
structure GfO (n : Nat) (w0 : World) (t s : TV) (T : TV) (b : Nat) (w : World) : Prop extends GfS n w0 t s w where
 nb : n + 2 < b
 ob : TBx w b 0 T
 oy : ∃ cs, w.heap[b]? = some (.cells cs 32)
 ow : OwT (n + 3) w T
 on : ∀ a ∈ adsL (kidsA T), a.1 < b
theorem GfO.later {n : Nat} {w0 : World} {t s T : TV} {b : Nat} {w w' : World} (h : GfO n w0 t s T b w) (hb : Below w.heap.size w w') : GfO n w0 t s T b w' := by
 have hs := h.toGfS.sz
 obtain ⟨cs, hc⟩ := h.oy
 exact ⟨h.toGfS.later (by omega) hb, h.nb, h.ob.later hb, ⟨cs, (hb.block _ (lt_of_block hc)).trans hc⟩, h.ow.later hb, h.on⟩
theorem GfO.set {n : Nat} {w0 : World} {t s T : TV} {b : Nat} {w w2 : World} (h : GfO n w0 t s T b w) (hb : Below w.heap.size w w2) {S : TV} (hS : TAt w2 S) (hSo : ∀ a ∈ adsL (kidsA S), w.heap.size <= a.1) (π : List Nat) (hok : okP π T) :
  w2.there (adP π b 0 T).1 (adP π b 0 T).2 4 /\ Below n w0 (set4 w2 (adP π b 0 T).1 (adP π b 0 T).2 S) /\ (set4 w2 (adP π b 0 T).1 (adP π b 0 T).2 S).heap[n + 1 + 1]? = some zTree /\ TBx (set4 w2 (adP π b 0 T).1 (adP π b 0 T).2 S) b 0 (setAt π T S) /\ TAt (set4 w2 (adP π b 0 T).1 (adP π b 0 T).2 S) (setAt π T S) /\ ∀ a ∈ adsL (kidsA (setAt π T S)), n + 3 <= a.1 := by
 have h2 := h.later hb
 obtain ⟨hpb, hpt⟩ := at_path π b 0 T h2.ob h2.ow.ta hok
 have hmem := adP_mem π b 0 T w2 h2.ow.ta hok
 have hlt : (adP π b 0 T).1 < w.heap.size := ads_lt h.ob h.ow.ta hmem
 have hcn : ∀ a, (adsT b 0 T).count a <= 1 := fun a => by
  rw [adsT_eq, List.count_cons]
  split
  ·rename_i e
   have e : (b, 0) = a := by simpa using e
   have : (adsL (kidsA T)).count a = 0 := List.count_eq_zero.2 fun hm => by
    have := h.on a hm
    subst e
    simp only at this
    omega
   omega
  ·have := h.ow.cn a
   omega
 have hty : ∀ a ∈ adsT b 0 T, n + 3 <= a.1 /\ a.2 % 4 = 0 /\ ∃ cs, w2.heap[a.1]? = some (.cells cs 32) := fun a ha => by
  rw [adsT_eq] at ha
  rcases List.mem_cons.1 ha with rfl | hm
  ·exact ⟨h.nb, rfl, h2.oy⟩
  ·exact h2.ow.ty a hm
 obtain ⟨hn3, hal, cs, htyP⟩ := hty _ hmem
 have hz := h2.toGfS.sz
 generalize hP : (adP π b 0 T).1 = P at *
 generalize hQ : (adP π b 0 T).2 = Q at *
 have hPQ : adP π b 0 T = (P, Q) := by rw [<- hP, <- hQ]
 have hC4 : ∀ a ∈ adsT b 0 T, a ≠ (P, Q) -> C4 w2 (set4 w2 P Q S) a := fun a hma hne => by
  refine ⟨by rw [set4_size]; exact ads_lt h2.ob h2.ow.ta hma, fun j hj => set4_far _ _ _ _ _ fun i hi e => ?_⟩
  simp only [Addr.mk.injEq, and_true] at e
  have h1 := (hty a hma).2.1
  exact hne (Prod.ext e.1 (by show a.2 = Q; omega))
 have hsame : ∀ j, j ≠ P -> (set4 w2 P Q S).heap[j]? = w2.heap[j]? := fun j hj => set4_other _ _ _ _ _ hj
 have hS' : TAt (set4 w2 P Q S) S := keep_at S 0 0 hS fun a ha => ⟨by rw [set4_size]; exact kids_lt hS ha, fun j _ => World.cell?_of_block (hsame _ (show a.1 ≠ P by have := hSo a ha; omega))⟩
 have hold : ∀ x : Nat, x < n + 3 -> (set4 w2 P Q S).heap[x]? = w2.heap[x]? := fun x hx => hsame x (by omega)
 obtain ⟨u1, u2⟩ := upd_at (w := w2) (w' := set4 w2 P Q S) (u := S) π b 0 T h2.ob h2.ow.ta hok (hcn _) (by rw [hPQ]; exact hC4) (by rw [hPQ]; exact set4_tbx S hpb.c0 hpb.c1 hpb.c2 hpb.c3 hpb.lt) hS'
 refine ⟨tbx_there hpb htyP, set4_below h2.bel Q S (by omega), (hold _ (by omega)).trans h2.rz, u1, u2, fun a ha => ?_⟩
 obtain ⟨A, B, _, hA2, hA3⟩ := ads_set π b 0 T hok
 have ha' : a ∈ adsT b 0 (setAt π T S) := by rw [adsT_eq]; exact List.mem_cons_of_mem _ ha
 have hz1 := h.toGfS.sz
 rw [hA3, hPQ, adsT_eq] at ha'
 rcases List.mem_append.1 ha' with ha' | ha'
 ·rcases List.mem_append.1 ha' with ha' | ha'
  ·exact (hty a (by rw [hA2]; simp [ha'])).1
  ·rcases List.mem_cons.1 ha' with rfl | hm
   ·exact hn3
   ·have := hSo a hm; omega
 ·exact (hty a (by rw [hA2]; simp [ha'])).1
section
variable {P : Program} {ops : Array Oper} {Q : Exit -> Act -> World -> Prop} {md : Region.Mode} {S : Array Bool -> World -> Prop}
theorem pickT {l : List Nat} {fuel : Nat} {listed : Array Bool} {a : Act} {w : World} (hr : Region.ready md ops listed = l) (hne : l ≠ [])
  (h : ∀ j ∈ l, ∃ o, ops.toList[j]? = some o /\ ∀ K' : Act -> World -> Prop, Shut (∀ a' w', S (listed.setIfInBounds j true) w' -> wpAnyX P md ops Q S fuel (listed.setIfInBounds j true) a' w' -> K' a' w') -> if Region.wanted o (yielded ops a.tmps) = true then Oper.wp P o a w K' Q else K' (a.put o.dst undef) w) :
  wpAnyX P md ops Q S (fuel + 1) listed a w := by
 refine ⟨fun h0 => absurd (hr.symm.trans h0) hne, fun i hi => ?_⟩
 rw [hr] at hi
 obtain ⟨o, ho', h⟩ := h i hi
 have ho : ops[i]? = some o := by rw [<- Array.getElem?_toList]; exact ho'
 exact wpOp_step ho (fun K' hK => h K' (fun a' w' hS hW => hK a' w' ⟨hS, hW⟩))
end
structure TwS (w0 : World) (X Y : List TV) (vx vy : Value) (w : World) : Prop where
 bel : Below w0.heap.size w0 w
 x : TRo w vx X
 y : TRo w vy Y
 xo : ∀ j, vx.ownBlock = some j -> w0.heap.size <= j
 yo : ∀ j, vy.ownBlock = some j -> w0.heap.size <= j
 ne : ∀ j, vx.ownBlock = some j -> vy.ownBlock ≠ some j
theorem TwS.later {w0 : World} {X Y : List TV} {vx vy : Value} {w w' : World} (h : TwS w0 X Y vx vy w) (hb : Below w.heap.size w w') : TwS w0 X Y vx vy w' :=
 ⟨h.bel.trans (hb.mono h.bel.size), h.x.later hb, h.y.later hb, h.xo, h.yo, h.ne⟩
def samL (X Y : List TV) : Prop := X.length = Y.length /\ ∀ i (h : i < X.length) (h' : i < Y.length), samV X[i] Y[i]
theorem samL_one {a b : TV} (h : samV a b) : samL [a] [b] := ⟨rfl, fun i hi _ => by
 simp only [List.length_singleton] at hi
 obtain rfl : i = 0 := by omega
 exact h⟩
theorem samL_app {X Y P Q : List TV} (h : samL X Y) (g : samL P Q) : samL (X ++ P) (Y ++ Q) := by
 refine ⟨by simp [h.1, g.1], fun i hi hi' => ?_⟩
 by_cases hx : i < X.length
 ·rw [List.getElem_append_left hx, List.getElem_append_left (by have := h.1; omega)]
  exact h.2 i hx _
 ·have e := h.1
  rw [List.getElem_append_right (by omega), List.getElem_append_right (by omega)]
  have hi2 : i - X.length < P.length := by simp at hi; omega
  have := g.2 (i - X.length) hi2 (by have := g.1; omega)
  simpa [e] using this
theorem two_allocT (w : World) (x y : Obj) : Below w.heap.size w ((w.alloc x).alloc y) /\ ((w.alloc x).alloc y).heap[w.heap.size]? = some x /\ ((w.alloc x).alloc y).heap[w.heap.size + 1]? = some y := by
 have hn : (w.alloc x).heap.size = w.heap.size + 1 := by simp
 have h2 := heap_alloc_new (w.alloc x) y
 rw [hn] at h2
 exact ⟨(below_alloc _ _).trans ((below_alloc _ _).mono (below_alloc _ _).size), ((below_alloc (w.alloc x) y).block _ (by rw [hn]; exact Nat.lt_succ_self _)).trans (heap_alloc_new w x), h2⟩
end Go.Proofs.YtobhemaikomdaaaGreatDoor
