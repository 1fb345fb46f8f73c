import Derived.Test.YtobhemaikomdaaaGreatDoorPTE7
import Derived.Test.YtobhemaikomdaaaGreatDoorPTW5ToTW6
namespace Go.Proofs.YtobhemaikomdaaaGreatDoor
set_option linter.unusedVariables false
open Go.RowKit
def lsD (D : List EV) : Nat := ((enE D).map lsZ).sum
theorem lsD_in (D : List EV) (p q : Nat) (t : TV) : lsD (D ++ [⟨true, p, q, t⟩]) = lsD D + lsZ t := by
 unfold lsD
 rw [enE_app, enE_in, List.map_append, List.sum_append]
 simp
theorem lsD_out (D : List EV) (p q : Nat) (t : TV) : lsD (D ++ [⟨false, p, q, t⟩]) = lsD D := by
 unfold lsD
 rw [enE_app, enE_out, List.append_nil]
theorem plB_le (t : TV) : (plB t).length <= 10 * lsZ t := by
 have h1 := C.enc_len 10 (t.prod + 1)
 unfold plB lsZ
 rw [List.length_append]
 by_cases hp : t.prod = -1
 ·rw [if_pos hp, if_pos hp, hp, List.length_append]
  have h2 := C.enc_len 10 (C.foldS t.kind)
  have h3 := C.enc_len 10 (t.tx.size : Int)
  have h4 : (C.enc 10 (-1 + 1)).length = 1 := rfl
  unfold encS
  rw [List.length_append, C.strBytes_len, h4]
  omega
 ·rw [if_neg hp, if_neg hp]
  have h2 := C.enc_len 10 (t.kids.length : Int)
  omega
theorem flat_lsZ (l : List TV) : (l.flatMap plB).length <= 10 * (l.map lsZ).sum := by
 induction l with
 | nil => simp
 | cons a l ih =>
  rw [List.flatMap_cons, List.length_append, List.map_cons, List.sum_cons]
  have := plB_le a
  omega
theorem EW.keep {w0 w w' : World} {p q : Nat} {v : Value} {xs : List Int} (h : EW w0 p q v xs w) (hb : Below w0.heap.size w0 w') (hk : ∀ j Cc t, w.heap[j]? = some (.cells Cc t (0, 0)) -> w0.heap.size <= j -> t = 112 ∨ t = 110 ∨ t = 5 -> w'.heap[j]? = w.heap[j]?) (hp : w0.heap.size <= p) : EW w0 p q v xs w' := by
 refine ⟨⟨(hk p _ _ h.inv.hp hp (.inl rfl)).trans h.inv.hp, (hk q _ _ h.inv.hq h.lq (.inr (.inl rfl))).trans h.inv.hq, ?_⟩, hb, h.lq, h.lv⟩
 refine h.inv.own.kept fun k hkk => ?_
 rcases h.inv.own.2.2 with ⟨rfl, _⟩ | ⟨g, cap, cur, rfl, _, hg, _⟩
 ·simp [Value.ownBlock] at hkk
 ·simp [Value.ownBlock] at hkk
  subst hkk
  exact hk g _ _ hg (h.lv g rfl) (.inr (.inr rfl))
structure EnS (w0 : World) (a b wb eb lb : Nat) (D : List EV) (w : World) : Prop where
 ew : ∃ v xs, EW w0 a b v xs w /\ (lsD D <= 16777216 -> xs = (enE D).flatMap plB)
 xb : w.heap[wb]? = some (.cells #[.pointer (some ⟨a, 0, none⟩)] 70)
 xe : w.heap[eb]? = some (.cells #[.int .i64 0] 35)
 xl : w.heap[lb]? = some (.cells #[.int .i64 (lsD D : Int)] 3)
 na : w0.heap.size <= a
 nw : w0.heap.size <= wb
 ne : w0.heap.size <= eb
 nl : w0.heap.size <= lb
 ok : ∀ t ∈ enE D, cdF t = 0
section
variable {w0 w w' : World} {a b wb eb lb : Nat} {D : List EV}
theorem EnS.bel (h : EnS w0 a b wb eb lb D w) : Below w0.heap.size w0 w := by
 obtain ⟨v, xs, h1, -⟩ := h.ew
 exact h1.bel
theorem EnS.still (h : EnS w0 a b wb eb lb D w) (hn : NoStp w0.heap.size w w') : EnS w0 a b wb eb lb D w' := by
 obtain ⟨v, xs, h1, h2⟩ := h.ew
 refine ⟨⟨v, xs, h1.keep (hn.bel h1.bel) (fun j Cc t hj _ ht => ?_) h.na, h2⟩, hn.keep _ _ h.xb (fun ⟨_, s⟩ => not_stp (by decide) s), hn.keep _ _ h.xe (fun ⟨_, s⟩ => not_stp (by decide) s), hn.keep _ _ h.xl (fun ⟨_, s⟩ => not_stp (by decide) s), h.na, h.nw, h.ne, h.nl, h.ok⟩
 rw [hj]
 refine hn.keep _ _ hj (fun ⟨_, s⟩ => not_stp ?_ s)
 rcases ht with rfl | rfl | rfl <;> decide
theorem EnS.later (h : EnS w0 a b wb eb lb D w) (hb : Below w.heap.size w w') : EnS w0 a b wb eb lb D w' := h.still (below_noStp hb)
theorem EnS.leave (h : EnS w0 a b wb eb lb D w) (p q : Nat) (t : TV) : EnS w0 a b wb eb lb (D ++ [⟨false, p, q, t⟩]) w := by
 have e1 := lsD_out D p q t
 have e2 : enE (D ++ [⟨false, p, q, t⟩]) = enE D := by rw [enE_app, enE_out, List.append_nil]
 obtain ⟨v, xs, h1, h2⟩ := h.ew
 exact ⟨⟨v, xs, h1, fun q => by rw [e2]; exact h2 (by rw [<- e1]; exact q)⟩, h.xb, h.xe, by rw [e1]; exact h.xl, h.na, h.nw, h.ne, h.nl, by rw [e2]; exact h.ok⟩
structure EnT (w0 : World) (a b wb eb lb : Nat) (D : List EV) (c ls : Int) (w1 w : World) : Prop where
 ew : ∃ v xs, EW w0 a b v xs w /\ (lsD D <= 16777216 -> xs = (enE D).flatMap plB)
 xb : w.heap[wb]? = some (.cells #[.pointer (some ⟨a, 0, none⟩)] 70)
 xe : w.heap[eb]? = some (.cells #[.int .i64 c] 35)
 xl : w.heap[lb]? = some (.cells #[.int .i64 ls] 3)
 on : OnStp w0.heap.size w1 w
 bel : Below w0.heap.size w0 w
 na : w0.heap.size <= a
 nw : w0.heap.size <= wb
 ne : w0.heap.size <= eb
 nl : w0.heap.size <= lb
theorem EnS.toT (h : EnS w0 a b wb eb lb D w) : EnT w0 a b wb eb lb D 0 (lsD D : Int) w w := ⟨h.ew, h.xb, h.xe, h.xl, OnStp.refl _ _, h.bel, h.na, h.nw, h.ne, h.nl⟩
section
variable {w1 : World} {c ls : Int}
theorem ew_set {v : Value} {xs : List Int} {j : Nat} {Cc : Array Value} {t : TypeId} {fz : Nat × Nat} (h : EW w0 a b v xs w) (hj : w.heap[j]? = some (.cells Cc t fz)) (ht : t ≠ 112 /\ t ≠ 110 /\ t ≠ 5) (hn : w0.heap.size <= j) (na : w0.heap.size <= a) (o : Nat) (u : Value) : EW w0 a b v xs (w.setCell ⟨j, o, none⟩ u) := by
 refine h.keep (h.bel.setCell (p := ⟨j, o, none⟩) hn u) (fun k Ck tk hk _ hq => Below.heap_setCell _ _ _ _ fun e => ?_) na
 rw [e] at hk
 rw [hk] at hj
 simp only [Option.some.injEq, Obj.cells.injEq] at hj
 obtain ⟨-, rfl, -⟩ := hj
 rcases hq with q | q | q
 ·exact ht.1 q
 ·exact ht.2.1 q
 ·exact ht.2.2 q
theorem on_set {w1 : World} {N j : Nat} {Cc : Array Value} {t : TypeId} {fz : Nat × Nat} (h : OnStp N w1 w) (hj : w.heap[j]? = some (.cells Cc t fz)) (ht : (t == 102) = false) (o : Nat) (u : Value) : OnStp N w1 (w.setCell ⟨j, o, none⟩ u) := by
 refine h.trans ⟨by simp [World.setCell], fun k ob hk _ hs => ?_⟩
 refine (Below.heap_setCell _ _ _ _ fun e => ?_).trans hk
 rw [e, hj] at hk
 cases hk
 exact not_stp ht hs
theorem ne_ty {j k : Nat} {C1 C2 : Array Value} {t1 t2 : TypeId} {f1 f2 : Nat × Nat} (h1 : w.heap[j]? = some (.cells C1 t1 f1)) (h2 : w.heap[k]? = some (.cells C2 t2 f2)) (h : t1 ≠ t2) : j ≠ k := fun e => by
 rw [e, h2] at h1
 simp only [Option.some.injEq, Obj.cells.injEq] at h1
 exact h h1.2.1.symm
theorem EnT.setE (h : EnT w0 a b wb eb lb D c ls w1 w) (c' : Int) : EnT w0 a b wb eb lb D c' ls w1 (w.setCell ⟨eb, 0, none⟩ (.int .i64 c')) := by
 obtain ⟨v, xs, h1, h2⟩ := h.ew
 exact ⟨⟨v, xs, ew_set h1 h.xe (by decide) h.ne h.na 0 _, h2⟩, (Below.heap_setCell _ _ _ _ (ne_ty h.xb h.xe (by decide))).trans h.xb, heap_set h.xe _ _, (Below.heap_setCell _ _ _ _ (ne_ty h.xl h.xe (by decide))).trans h.xl, on_set h.on h.xe (by decide) 0 _, h.bel.setCell (p := ⟨eb, 0, none⟩) h.ne _, h.na, h.nw, h.ne, h.nl⟩
theorem EnT.setL (h : EnT w0 a b wb eb lb D c ls w1 w) (l' : Int) : EnT w0 a b wb eb lb D c l' w1 (w.setCell ⟨lb, 0, none⟩ (.int .i64 l')) := by
 obtain ⟨v, xs, h1, h2⟩ := h.ew
 exact ⟨⟨v, xs, ew_set h1 h.xl (by decide) h.nl h.na 0 _, h2⟩, (Below.heap_setCell _ _ _ _ (ne_ty h.xb h.xl (by decide))).trans h.xb, (Below.heap_setCell _ _ _ _ (ne_ty h.xe h.xl (by decide))).trans h.xe, heap_set h.xl _ _, on_set h.on h.xl (by decide) 0 _, h.bel.setCell (p := ⟨lb, 0, none⟩) h.nl _, h.na, h.nw, h.ne, h.nl⟩
theorem EnT.cells (h : EnT w0 a b wb eb lb D c ls w1 w) : (w.cell? ⟨eb, 0, none⟩ = some (.int .i64 c) /\ w.cell? ⟨lb, 0, none⟩ = some (.int .i64 ls) /\ w.cell? ⟨wb, 0, none⟩ = some (.pointer (some ⟨a, 0, none⟩))) /\ w.frozen? ⟨eb, 0, none⟩ = false /\ w.frozen? ⟨lb, 0, none⟩ = false :=
 ⟨⟨(cellq_any h.xe).trans rfl, (cellq_any h.xl).trans rfl, (cellq_any h.xb).trans rfl⟩, by simp [World.frozen?, h.xe], by simp [World.frozen?, h.xl]⟩
theorem EnT.later (h : EnT w0 a b wb eb lb D c ls w1 w) (hb : Below w.heap.size w w') : EnT w0 a b wb eb lb D c ls w1 w' := by
 obtain ⟨v, xs, h1, h2⟩ := h.ew
 exact ⟨⟨v, xs, h1.later hb, h2⟩, (hb.block _ (lt_of_block h.xb)).trans h.xb, (hb.block _ (lt_of_block h.xe)).trans h.xe, (hb.block _ (lt_of_block h.xl)).trans h.xl, h.on.trans (below_onStp hb), h.bel.trans (hb.mono h.bel.size), h.na, h.nw, h.ne, h.nl⟩
theorem EnT.wrote (h : EnT w0 a b wb eb lb D c ls w1 w) {v' : Value} {xs' : List Int} (hw : EW w0 a b v' xs' w') (hf : EF w w') : (w'.heap[wb]? = some (.cells #[.pointer (some ⟨a, 0, none⟩)] 70)) /\ w'.heap[eb]? = some (.cells #[.int .i64 c] 35) /\ w'.heap[lb]? = some (.cells #[.int .i64 ls] 3) /\ OnStp w0.heap.size w1 w' :=
 ⟨(hf.2 _ _ _ h.xb (by decide) (by decide)).trans h.xb, (hf.2 _ _ _ h.xe (by decide) (by decide)).trans h.xe, (hf.2 _ _ _ h.xl (by decide) (by decide)).trans h.xl, h.on.trans ⟨hf.1, fun k o hk _ ⟨cs, fz, e⟩ => by subst e; exact (hf.2 _ _ _ hk (by decide) (by decide)).trans hk⟩⟩
end
set_option linter.unusedSimpArgs false in
set_option maxRecDepth 100000 in
set_option maxHeartbeats 4000000 in
theorem enc1_W {p q : Nat} {t : TV} (h : EnS w0 a b wb eb lb D w) (ht : TBx w0 p q t) (hs : t.tx.size <= 500000000) (hk : t.kids.length <= 1000000000) (hl : lsD D <= 1000000000000) : Calls Tryz.prog 29 #[.pointer (some ⟨p, q, none⟩), .pointer (some ⟨eb, 0, none⟩), .pointer (some ⟨lb, 0, none⟩), .pointer (some ⟨wb, 0, none⟩)] w fun e w' => ∃ r, e = .returned (.bool r) /\ OnStp w0.heap.size w w' /\ (r = true -> EnS w0 a b wb eb lb (D ++ [⟨true, p, q, t⟩]) w') /\ (r = false -> cdF t ≠ 0 /\ Below w0.heap.size w0 w' /\ w'.heap[eb]? = some (.cells #[.int .i64 (cdF t)] 35)) := by
 have TB : ∀ w', Below w0.heap.size w0 w' -> TBx w' p q t := fun w' hb => by
  have e : ∀ j, w'.cell? ⟨p, j, none⟩ = w0.cell? ⟨p, j, none⟩ := fun j => hb.cell (p := ⟨p, j, none⟩) ht.lt
  exact ⟨Nat.lt_of_lt_of_le ht.lt hb.size, (e _).trans ht.c0, (e _).trans ht.c1, (e _).trans ht.c2, (e _).trans ht.c3⟩
 have CF : Hid (Calls Tryz.prog 30 #[.pointer (some ⟨p, q, none⟩)] w fun e w' => e = .returned (.int .i64 (cdF t)) /\ w' = w) := codeFault_W (TB w h.bel)
 have CL : Hid (∀ w', Below w0.heap.size w0 w' -> Calls Tryz.prog 31 #[.pointer (some ⟨p, q, none⟩)] w' fun e w'' => e = .returned (.int .i64 (lsZ t : Int)) /\ w'' = w') := fun w' hb => leastSize_W (TB w' hb) (by omega)
 have H0 : Hid (EnT w0 a b wb eb lb D 0 (lsD D : Int) w w) := h.toT
 have HOK : Hid (∀ t ∈ enE D, cdF t = 0) := h.ok
 have hz : lsZ t <= 600000000 := by unfold lsZ; split <;> omega
 have wr1 : IntKind.i64.wrap ((lsD D : Int) + (lsZ t : Int)) = (lsD D : Int) + (lsZ t : Int) := wrapI (by omega) (by omega)
 have CWP : Hid (∀ w' w1, cdF t = 0 -> (lsD D : Int) + (lsZ t : Int) <= 16777216 -> EnT w0 a b wb eb lb D 0 ((lsD D : Int) + (lsZ t : Int)) w1 w' -> Calls Tryz.prog 32 #[.pointer (some ⟨a, 0, none⟩), .pointer (some ⟨p, q, none⟩)] w' fun e w'' => e = .returned (.tuple #[]) /\ OnStp w0.heap.size w1 w'' /\ ((∀ t ∈ enE D, cdF t = 0) -> EnS w0 a b wb eb lb (D ++ [⟨true, p, q, t⟩]) w'')) := fun w' w1 hc hle hT => by
  obtain ⟨v, xs, h1, h2⟩ := hT.ew
  have hx := h2 (by omega)
  have hxl : xs.length <= 400000000 := by
   rw [hx]
   have := flat_lsZ (enE D)
   have e : ((enE D).map lsZ).sum = lsD D := rfl
   omega
  refine (writePlace_W h1 ht hc hs hk hxl).mono fun e w'' ⟨e1, v', e2, e3⟩ => ?_
  obtain ⟨k1, k2, k3, k4⟩ := hT.wrote e2 e3
  refine ⟨e1, k4, fun hok => ⟨⟨v', _, e2, fun _ => ?_⟩, k1, k2, ?_, hT.na, hT.nw, hT.ne, hT.nl, fun x hx' => ?_⟩⟩
  ·rw [enE_app, enE_in, List.flatMap_append, hx]
   simp
  ·rw [lsD_in, k3]; simp
  ·rw [enE_app, enE_in] at hx'
   rcases List.mem_append.1 hx' with hx' | hx'
   ·exact hok x hx'
   ·simp only [List.mem_cons, List.not_mem_nil, or_false] at hx'
    rw [hx']; exact hc
 clear h ht hs hk TB hz
 obtain ⟨⟨x0, x1, x2⟩, f0, f1⟩ := H0.out.cells
 go_enter Tryz.func29, Tryz.ntmps29
 go_upto_region 2 with (go_at_call 30; refine CF.out.mono ?_; rintro e w1 ⟨rfl, hz⟩; rw [hz]; clear hz w1)
 refine wp_world (fun w' => EnT w0 a b wb eb lb D (cdF t) (lsD D : Int) w w') (H0.out.setE _) fun w2 h2 => ?_
 have H2 : Hid (EnT w0 a b wb eb lb D (cdF t) (lsD D : Int) w w2) := h2
 clear h2 x0 x1 x2 f0 f1 H0 CF
 obtain ⟨⟨x0, x1, x2⟩, f0, f1⟩ := H2.out.cells
 have H2D : Hid (EnT w0 a b wb eb lb D (cdF t) (lsD D : Int) w w2.drew) := H2.out.later (Below.refl _ _).drew
 have CL2 : Hid (Calls Tryz.prog 31 #[.pointer (some ⟨p, q, none⟩)] w2.drew fun e w'' => e = .returned (.int .i64 (lsZ t : Int)) /\ w'' = w2.drew) := CL.out _ H2D.out.bel
 go_region_with (go_at_call 31; refine CL2.out.mono ?_; rintro e w9 ⟨rfl, hz⟩; rw [hz]; clear hz w9)
 all_goals
  have H3 : Hid (EnT w0 a b wb eb lb D (cdF t) ((lsD D : Int) + (lsZ t : Int)) w (w2.setCell ⟨lb, 0, none⟩ (.int .i64 ((lsD D : Int) + (lsZ t : Int)))).drew) := (H2.out.setL _).later (Below.refl _ _).drew
  generalize (w2.setCell ⟨lb, 0, none⟩ (.int .i64 ((lsD D : Int) + (lsZ t : Int)))).drew = w3 at *
  clear x0 x1 x2 f0 f1 H2 H2D CL CL2 wr1
  obtain ⟨⟨x0, x1, x2⟩, f0, f1⟩ := H3.out.cells
  by_cases hc : cdF t = 0
  ·have t1 : (cdF t == 0) = true := by simpa using hc
   by_cases hle : (lsD D : Int) + (lsZ t : Int) <= 16777216
   ·have CW3 : Hid (Calls Tryz.prog 32 #[.pointer (some ⟨a, 0, none⟩), .pointer (some ⟨p, q, none⟩)] w3 fun e w'' => e = .returned (.tuple #[]) /\ OnStp w0.heap.size w w'' /\ ((∀ t ∈ enE D, cdF t = 0) -> EnS w0 a b wb eb lb (D ++ [⟨true, p, q, t⟩]) w'')) := CWP.out w3 w hc hle (by have := H3.out; rw [hc] at this; exact this)
    rw [hc] at x0
    clear CWP H3 t1 hc
    generalize (lsD D : Int) + (lsZ t : Int) = lz at *
    go_wp2_with (go_at_call 32; refine CW3.out.mono ?_; rintro e w4 ⟨rfl, o4, s4⟩; have H4 : Hid (OnStp w0.heap.size w w4 /\ EnS w0 a b wb eb lb (D ++ [⟨true, p, q, t⟩]) w4) := ⟨o4, s4 HOK.out⟩; clear o4 s4 x0 x1 x2 f0 f1 CW3; obtain ⟨⟨x0, -, -⟩, -⟩ := H4.out.2.toT.cells)
    go_ret
    exact ⟨_, rfl, H4.out.1, fun _ => H4.out.2, fun q => by cases q⟩
   ·have H4 : Hid (OnStp w0.heap.size w w3 /\ EnS w0 a b wb eb lb (D ++ [⟨true, p, q, t⟩]) w3) := by
     obtain ⟨v, xs, k1, k2⟩ := H3.out.ew
     refine ⟨H3.out.on, ⟨v, xs, k1, fun q => ?_⟩, H3.out.xb, ?_, ?_, H3.out.na, H3.out.nw, H3.out.ne, H3.out.nl, fun x hx' => ?_⟩
     ·rw [lsD_in] at q
      omega
     ·rw [H3.out.xe, hc]
     ·rw [lsD_in, H3.out.xl]; simp
     ·rw [enE_app, enE_in] at hx'
      rcases List.mem_append.1 hx' with hx' | hx'
      ·exact HOK.out x hx'
      ·simp only [List.mem_cons, List.not_mem_nil, or_false] at hx'
       rw [hx']; exact hc
    have hgt : 16777216 < (lsD D : Int) + (lsZ t : Int) := by omega
    rw [hc] at x0
    clear CWP H3 t1 hc hle
    generalize (lsD D : Int) + (lsZ t : Int) = lz at *
    go_wp2
    go_ret
    exact ⟨_, rfl, H4.out.1, fun _ => H4.out.2, fun q => by cases q⟩
  ·have t1 : (cdF t == 0) = false := by simpa using hc
   have H4 : Hid (OnStp w0.heap.size w w3 /\ cdF t ≠ 0 /\ Below w0.heap.size w0 w3 /\ w3.heap[eb]? = some (.cells #[.int .i64 (cdF t)] 35)) := ⟨H3.out.on, hc, H3.out.bel, H3.out.xe⟩
   clear CWP H3 hc HOK
   go_wp2
   go_ret
   exact ⟨_, rfl, H4.out.1, (fun q => by cases q), fun _ => H4.out.2⟩
end
end Go.Proofs.YtobhemaikomdaaaGreatDoor
