import Derived.Test.YtobhemaikomdaaaGreatDoorPTTPToRegS
import Derived.Test.YtobhemaikomdaaaGreatDoorPGRulesToGBulk
import Derived.Test.YtobhemaikomdaaaGreatDoorPTW5ToTW6
import Derived.Test.YtobhemaikomdaaaGreatDoorPPlainToWText
import Derived.Test.YtobhemaikomdaaaGreatDoorPTE8
namespace Go.Proofs.YtobhemaikomdaaaGreatDoor
set_option linter.unusedVariables false
open Go.ChangeShapes Go.WideShapes Go.ChangeAt Go.RowKit
section
variable {H : Type} {enc : TypeId × Value -> H} {W : World}
end
def wtT (t : TV) : Nat := ((preT t).map fun x => 3 + x.tx.size).sum
def wtL (l : List TV) : Nat := ((preL l).map fun x => 3 + x.tx.size).sum
theorem wtT_eq (t : TV) : wtT t = 3 + t.tx.size + wtL t.kids := by
 unfold wtT wtL
 rw [preT_eq, List.map_cons, List.sum_cons]
theorem wtL_cons (t : TV) (l : List TV) : wtL (t :: l) = wtT t + wtL l := by
 unfold wtT wtL preL
 rw [List.flatMap_cons, List.map_append, List.sum_append]
section
variable {H : Type} {enc : TypeId × Value -> H} {W : World}
end
open Go.RowKit
def sealE (xs : List Int) : Int := if 16777216 < xs.length then 5 else 0
def sealB (k : Int) (xs : List Int) : List Int := if 16777216 < xs.length then [] else C.frame k xs
theorem seal_ends (k : Int) (ao : Option Addr) (N cap : Nat) (xs : List Int) (w : World) (hN : N = xs.length) (hk0 : 0 <= k) (hk1 : k <= 255) (hl : xs.length <= 140737488355328) (hm : C.Magic w) (hr : C.RowAt w ao xs) (hn : ao = none -> cap = 0) :
  Calls Tryz.prog 34 #[.int .u8 k, .slice ao N cap] w fun e w' => ∃ a N c, e = .returned (.tuple #[.slice a N c, .int .i64 (sealE xs)]) /\ C.Own w' (.slice a N c) (sealB k xs) /\ Below w.heap.size w w' := by
 by_cases h : 16777216 < xs.length
 ·subst hN
  refine (C.seal_long k ao cap xs.length w hl h).mono ?_
  rintro e w' ⟨rfl, rfl⟩
  exact ⟨none, 0, 0, by simp [sealE, h], by simp [sealB, h]; exact C.Own.nil _, Below.refl _ _⟩
 ·refine (C.seal_at k ao N cap xs w hN hk0 hk1 (by omega) hm hr hn).mono ?_
  rintro e w' ⟨g, M, c, rfl, ho, hg, hb⟩
  exact ⟨some ⟨g, 0, none⟩, M, c, by simp [sealE, h], by simp [sealB, h]; exact ho, hb⟩
def fcT (t : TV) : Int := (((preT t).map cdF).find? fun c => c != 0).getD 0
def lsA (t : TV) : Nat := ((preT t).map lsZ).sum
def encU (t : TV) : List Int × Int := if fcT t ≠ 0 then ([], fcT t) else if 16777216 < lsA t then ([], 5) else (sealB 3 (encT t), sealE (encT t))
theorem sum_mem {l : List TV} {f : TV -> Nat} {x : TV} (h : x ∈ l) : f x <= (l.map f).sum := by
 induction l with
 | nil => cases h
 | cons a l ih =>
  rw [List.map_cons, List.sum_cons]
  rcases List.mem_cons.1 h with rfl | h
  ·omega
  ·have := ih h; omega
theorem ls_wt (t : TV) : lsA t <= wtT t := by
 unfold lsA wtT
 generalize preT t = l
 induction l with
 | nil => exact Nat.le_refl _
 | cons a l ih =>
  rw [List.map_cons, List.sum_cons, List.map_cons, List.sum_cons]
  have : lsZ a <= 3 + a.tx.size := by unfold lsZ; split <;> omega
  omega
theorem sz_wt (t : TV) : szT t <= wtT t := by
 induction t using TV.ind with
 | _ t ih =>
  have e : ∀ l : List TV, (∀ k ∈ l, szT k <= wtT k) -> szL l <= wtL l := fun l => by
   induction l with
   | nil => intro _; exact Nat.zero_le _
   | cons a l il =>
    intro h
    have h1 := h a (List.mem_cons_self ..)
    have h2 := il fun k hk => h k (List.mem_cons_of_mem _ hk)
    rw [szL_cons, wtL_cons]
    omega
  have h2 := e _ ih
  rw [szT_eq, wtT_eq]
  omega
theorem pre_kids {t x : TV} (h : x ∈ preT t) : x.kids.length < szT t := by
 induction t using TV.ind with
 | _ t ih =>
  rw [preT_eq] at h
  rw [szT_eq]
  rcases List.mem_cons.1 h with rfl | h
  ·have := szL_ge x.kids; omega
  ·obtain ⟨k, hk, h⟩ := List.mem_flatMap.1 h
   have h1 := ih k hk h
   have h2 := szL_mem hk
   omega
theorem fc_zero {t : TV} (h : ∀ x ∈ preT t, cdF x = 0) : fcT t = 0 := by
 unfold fcT
 rw [List.find?_eq_none.2 (fun c hc => ?_)]
 ·rfl
 ·obtain ⟨x, hx, rfl⟩ := List.mem_map.1 hc
  rw [h x hx]; decide
theorem zero_fc {t : TV} (h : fcT t = 0) : ∀ x ∈ preT t, cdF x = 0 := by
 intro x hx
 apply Classical.byContradiction
 intro hne
 unfold fcT at h
 cases hf : ((preT t).map cdF).find? fun c => c != 0 with
 | none =>
  have := List.find?_eq_none.1 hf (cdF x) (List.mem_map.2 ⟨x, hx, rfl⟩)
  simp at this
  exact hne this
 | some c =>
  rw [hf] at h
  have := List.find?_some hf
  simp at this h
  exact this h
theorem cd_all {t : TV} (h : ∀ x ∈ preT t, cdF x = 0) : CdT t := by
 induction t using TV.ind with
 | _ t ih =>
  rw [preT_eq] at h
  exact AllP.mk (h t (List.mem_cons_self ..)) fun k hk => ih k hk fun x hx => h x (List.mem_cons_of_mem _ (List.mem_flatMap.2 ⟨k, hk, hx⟩))
theorem all_cd (t : TV) : CdT t -> ∀ x ∈ preT t, cdF x = 0 := by
 induction t using TV.ind with
 | _ t ih =>
  intro h x hx
  rw [preT_eq] at hx
  rcases List.mem_cons.1 hx with rfl | hx
  ·exact AllP.here h
  ·obtain ⟨k, hk, hx⟩ := List.mem_flatMap.1 hx
   exact ih k hk (AllP.kid h k hk) x hx
theorem fc_first {t x : TV} {l m : List TV} (h : l ++ x :: m = preT t) (h0 : ∀ y ∈ l, cdF y = 0) (hx : cdF x ≠ 0) : fcT t = cdF x := by
 unfold fcT
 rw [<- h, List.map_append, List.find?_append, List.map_cons, List.find?_eq_none.2 (fun c hc => ?_)]
 ·rw [List.find?_cons_of_pos (by simpa using hx)]
  rfl
 ·obtain ⟨y, hy, rfl⟩ := List.mem_map.1 hc
  rw [h0 y hy]; decide
theorem ev_split {D R : List EV} {p q p0 q0 : Nat} {x t : TV} (h : D ++ ⟨true, p, q, x⟩ :: R = evT p0 q0 t) : enE D ++ x :: enE R = preT t := by
 have := congrArg enE h
 rw [ev_pre, enE_app, <- List.singleton_append, enE_app, enE_in] at this
 exact this
section
variable {w0 w1 : World} {a b wb eb lb : Nat} {t : TV} {p0 : Nat}
theorem ent_enc1 : EntW 29 := fun _ _ => by simp
theorem encWalk (hb : TBx w0 p0 0 t) (ht : TAt w0 t) (hw : wtT t <= 100000000) (h : EnS w0 a b wb eb lb [] w1) : Calls Tryz.prog 25 #[.pointer (some ⟨p0, 0, none⟩), fnV 29 #[.pointer (some ⟨eb, 0, none⟩), .pointer (some ⟨lb, 0, none⟩), .pointer (some ⟨wb, 0, none⟩)]] w1 fun e w' => e = .returned (.tuple #[]) /\ (EnS w0 a b wb eb lb (evT p0 0 t) w' ∨ fcT t ≠ 0 /\ Below w0.heap.size w0 w' /\ w'.heap[eb]? = some (.cells #[.int .i64 (fcT t)] 35)) := by
 have hs := sz_wt t
 refine walk_R (St := fun D w' => EnS w0 a b wb eb lb D w') (Fin := fun w' => fcT t ≠ 0 /\ Below w0.heap.size w0 w' /\ w'.heap[eb]? = some (.cells #[.int .i64 (fcT t)] 35)) ⟨ent_enc1, hb, ht, by omega, fun D w w' h hn => h.still hn, fun D w h => h.bel, fun D p q x R hD hT w2 h2 => ?_, fun D p q x R w2 _ h2 => h2.leave p q x⟩ w1 h
 have hpre := ev_split hD
 have hx : x ∈ preT t := by rw [<- hpre]; simp
 have h1 : x.tx.size <= wtT t := by
  have := sum_mem (f := fun x => 3 + x.tx.size) hx
  unfold wtT
  omega
 have h2' := pre_kids hx
 have h3 : lsD D <= lsA t := by
  unfold lsD lsA
  rw [<- hpre, List.map_append, List.sum_append]
  omega
 have h4 := ls_wt t
 refine (enc1_W h2 hT (by omega) (by omega) (by omega)).mono fun e w' ⟨r, e1, e2, e3, e4⟩ => ⟨r, e1, e2, e3, fun hr => ?_⟩
 obtain ⟨k1, k2, k3⟩ := e4 hr
 have := fc_first hpre h2.ok k1
 rw [this]
 exact ⟨k1, k2, k3⟩
end
set_option linter.unusedSimpArgs false in
set_option maxRecDepth 100000 in
set_option maxHeartbeats 8000000 in
theorem enc_W {w : World} {t : TV} (ht : TAt w t) (hw : wtT t <= 100000000) (hm : C.Magic w) : Calls Tryz.prog 11 #[t.val] w fun e w' => Below w.heap.size w w' /\ ∃ a N c, e = .returned (.tuple #[.slice a N c, .int .i64 (encU t).2]) /\ C.Own w' (.slice a N c) (encU t).1 := by
 obtain ⟨w0, hw0⟩ : ∃ w0 : World, w0 = w.alloc (tBox t) := ⟨_, rfl⟩
 have hB0 : Below w.heap.size w w0 := by rw [hw0]; exact below_alloc _ _
 have hR0 : w0.heap[w.heap.size]? = some (tBox t) := by rw [hw0]; exact heap_alloc_new _ _
 have hTB : TBx w0 w.heap.size 0 t := by
  obtain ⟨a, b, c, d⟩ := tb_cells hR0
  exact ⟨lt_of_block hR0, a, b, c, d⟩
 have HW0 : Hid (w0 = w.alloc (tBox t) /\ Below w.heap.size w w0) := ⟨hw0, hB0⟩
 have CWK : Hid (∀ a b wb eb lb w1, EnS w0 a b wb eb lb [] w1 -> Calls Tryz.prog 25 #[.pointer (some ⟨w.heap.size, 0, none⟩), fnV 29 #[.pointer (some ⟨eb, 0, none⟩), .pointer (some ⟨lb, 0, none⟩), .pointer (some ⟨wb, 0, none⟩)]] w1 fun e w' => e = .returned (.tuple #[]) /\ (EnS w0 a b wb eb lb (evT w.heap.size 0 t) w' ∨ fcT t ≠ 0 /\ Below w0.heap.size w0 w' /\ w'.heap[eb]? = some (.cells #[.int .i64 (fcT t)] 35))) := fun a b wb eb lb w1 h1 => encWalk hTB (ht.later hB0) hw h1
 have HMG : Hid (∀ w', Below w.heap.size w w' -> C.Magic w') := fun w' hb => C.Magic.later hm hb hm.lt
 have HEV : Hid (lsD (evT w.heap.size 0 t) = lsA t /\ (enE (evT w.heap.size 0 t)).flatMap plB = encT t /\ ((∀ x ∈ enE (evT w.heap.size 0 t), cdF x = 0) -> fcT t = 0) /\ (lsA t : Int) <= 100000000 /\ (encT t).length <= 10 * lsA t) := by
  have h1 := ls_wt t
  have h2 := flat_lsZ (preT t)
  unfold lsD
  rw [ev_pre]
  exact ⟨rfl, rfl, fun h => fc_zero h, by omega, h2⟩
 have HST : Hid (∀ w', w' = ((((((w0.alloc (.cells #[.slice none 0 0, .int .i64 0] 110)).alloc (.cells #[.pointer (some ⟨w0.heap.size, 0, none⟩)] 112)).alloc (.cells #[.pointer (some ⟨w0.heap.size + 1, 0, none⟩)] 70)).alloc (.cells #[.int .i64 0] 35)).alloc (.cells #[.int .i64 0] 3))) -> EnS w0 (w0.heap.size + 1) w0.heap.size (w0.heap.size + 1 + 1) (w0.heap.size + 1 + 1 + 1) (w0.heap.size + 1 + 1 + 1 + 1) [] w') := fun w' he => by
  have q1 := C.winv_new w0
  have q2 := C.below_two w0 (.cells #[.slice none 0 0, .int .i64 0] 110) (.cells #[.pointer (some ⟨w0.heap.size, 0, none⟩)] 112)
  have z2 : ((w0.alloc (.cells #[.slice none 0 0, .int .i64 0] 110)).alloc (.cells #[.pointer (some ⟨w0.heap.size, 0, none⟩)] 112)).heap.size = w0.heap.size + 1 + 1 := by simp
  generalize hw2 : (w0.alloc (.cells #[.slice none 0 0, .int .i64 0] 110)).alloc (.cells #[.pointer (some ⟨w0.heap.size, 0, none⟩)] 112) = w2 at *
  have E2 : EW w0 (w0.heap.size + 1) w0.heap.size (.slice none 0 0) [] w2 := ⟨q1, q2, Nat.le_refl _, fun k hk => by simp [Value.ownBlock] at hk⟩
  have b3 := below_alloc w2 (.cells #[.pointer (some ⟨w0.heap.size + 1, 0, none⟩)] 70)
  have n3 := heap_alloc_new w2 (.cells #[.pointer (some ⟨w0.heap.size + 1, 0, none⟩)] 70)
  have z3 : (w2.alloc (.cells #[.pointer (some ⟨w0.heap.size + 1, 0, none⟩)] 70)).heap.size = w0.heap.size + 1 + 1 + 1 := by simp [z2]
  generalize w2.alloc (.cells #[.pointer (some ⟨w0.heap.size + 1, 0, none⟩)] 70) = w3 at *
  have b4 := below_alloc w3 (.cells #[.int .i64 0] 35)
  have n4 := heap_alloc_new w3 (.cells #[.int .i64 0] 35)
  have z4 : (w3.alloc (.cells #[.int .i64 0] 35)).heap.size = w0.heap.size + 1 + 1 + 1 + 1 := by simp [z3]
  generalize w3.alloc (.cells #[.int .i64 0] 35) = w4 at *
  have b5 := below_alloc w4 (.cells #[.int .i64 0] 3)
  have n5 := heap_alloc_new w4 (.cells #[.int .i64 0] 3)
  rw [<- he] at b5 n5
  have B35 := b4.trans (b5.mono b4.size)
  have B25 := b3.trans (B35.mono b3.size)
  rw [z2] at n3
  rw [z3] at n4
  rw [z4] at n5
  refine ⟨⟨_, _, E2.later B25, fun _ => rfl⟩, (B35.block _ (lt_of_block n3)).trans n3, (b5.block _ (lt_of_block n4)).trans n4, n5, by omega, by omega, by omega, by omega, fun x hx => by cases hx⟩
 clear ht hw hm hB0 hR0 hTB hw0
 have CT : Hid True := trivial
 go_enter Tryz.func11, Tryz.ntmps11
 go_upto_region 1 with fail
 refine wp_world (fun w' => w' = w0) HW0.out.1.symm fun w1 h1 => ?_
 obtain rfl := h1
 go_upto_region 3 with (go_at_call 28; refine (C.newwriter_any w1).mono ?_; rintro e w2 ⟨rfl, e2⟩; rw [e2]; clear e2 w2)
 refine wp_world (fun w' => EnS w1 (w1.heap.size + 1) w1.heap.size (w1.heap.size + 1 + 1) (w1.heap.size + 1 + 1 + 1) (w1.heap.size + 1 + 1 + 1 + 1) [] w') (HST.out _ rfl) fun w3 h3 => ?_
 have H3 : Hid (EnS w1 (w1.heap.size + 1) w1.heap.size (w1.heap.size + 1 + 1) (w1.heap.size + 1 + 1 + 1) (w1.heap.size + 1 + 1 + 1 + 1) [] w3) := h3
 have HBB : Hid (∀ w', Below w1.heap.size w1 w' -> Below w.heap.size w w') := fun w' hb => HW0.out.2.trans (hb.mono HW0.out.2.size)
 clear h3 HST HW0 CT
 obtain ⟨a, ha⟩ : ∃ a, a = w1.heap.size + 1 := ⟨_, rfl⟩
 rw [<- ha] at H3 ⊢
 obtain ⟨wb, hwb⟩ : ∃ wb, wb = a + 1 := ⟨_, rfl⟩
 rw [<- hwb] at H3 ⊢
 obtain ⟨eb, heb⟩ : ∃ eb, eb = wb + 1 := ⟨_, rfl⟩
 rw [<- heb] at H3 ⊢
 obtain ⟨lb, hlb⟩ : ∃ lb, lb = eb + 1 := ⟨_, rfl⟩
 rw [<- hlb] at H3 ⊢
 obtain ⟨b, hb⟩ : ∃ b, b = w1.heap.size := ⟨_, rfl⟩
 rw [<- hb] at H3
 clear ha hwb heb hlb hb
 by_cases hf : fcT t = 0
 ·have CW : Hid (Calls Tryz.prog 25 #[.pointer (some ⟨w.heap.size, 0, none⟩), fnV 29 #[.pointer (some ⟨eb, 0, none⟩), .pointer (some ⟨lb, 0, none⟩), .pointer (some ⟨wb, 0, none⟩)]] w3 fun e w' => e = .returned (.tuple #[]) /\ EnS w1 a b wb eb lb (evT w.heap.size 0 t) w') := (CWK.out _ _ _ _ _ _ H3.out).mono fun e w' ⟨e1, e2⟩ => ⟨e1, by
   rcases e2 with e2 | ⟨e2, -⟩
   ·exact e2
   ·exact absurd hf e2⟩
  have HF : Hid (fcT t = 0) := hf
  clear CWK H3 hf
  by_cases hle : lsA t <= 16777216
  ·have HU : Hid (encU t = (sealB 3 (encT t), sealE (encT t))) := by show _ = _; unfold encU; rw [if_neg (by simpa using HF.out), if_neg (by omega)]
   have hli : (lsA t : Int) <= 16777216 := by omega
   have HLE : Hid (lsA t <= 16777216) := hle
   clear HF hle
   go_upto_region 8 with (go_at_call 25; refine CW.out.mono ?_; rintro e w4 ⟨rfl, h4⟩; have H4 : Hid (EnS w1 a b wb eb lb (evT w.heap.size 0 t) w4) := h4; clear h4; obtain ⟨⟨x0, x1, x2⟩, f0, -⟩ := H4.out.toT.cells; rw [HEV.out.1] at x1)
   obtain ⟨v, xs, hE, hxs⟩ := H4.out.ew
   have hxe := hxs (by rw [HEV.out.1]; exact HLE.out)
   rw [HEV.out.2.1] at hxe
   subst hxe
   have CB : Hid (Calls Tryz.prog 33 #[.pointer (some ⟨a, 0, none⟩)] w4 fun e w' => ∃ ao c, e = .returned (.tuple #[.slice ao (encT t).length c, .int .i64 0]) /\ C.Own w' (.slice ao (encT t).length c) (encT t) /\ Below w4.heap.size w4 w') := (C.wbytes_any hE.inv (by have := HEV.out.2.2.2.2; have := HLE.out; omega)).mono fun e w' ⟨ao, c, e1, e2, _, e4⟩ => ⟨ao, c, e1, e2, e4⟩
   have HS : Hid (Below w1.heap.size w1 w4 /\ w4.heap[eb]? = some (.cells #[.int .i64 0] 35) /\ w1.heap.size <= eb /\ (encT t).length <= 140737488355328) := ⟨H4.out.bel, H4.out.xe, H4.out.ne, by have := HEV.out.2.2.2.2; have := HLE.out; omega⟩
   clear hE hxs H4 CW HEV x0 x1 f0 hli HLE
   go_upto_region 9 with (go_at_call 33; refine CB.out.mono ?_; rintro e w5 ⟨ao, c, rfl, o5, b5⟩; have H5 : Hid (C.Own w5 (.slice ao (encT t).length c) (encT t) /\ Below w1.heap.size w1 w5 /\ w5.heap[eb]? = some (.cells #[.int .i64 0] 35)) := ⟨o5, HS.out.1.trans (b5.mono HS.out.1.size), (b5.block _ (lt_of_block HS.out.2.1)).trans HS.out.2.1⟩; clear o5 b5 x2; have f0 : w5.frozen? ⟨eb, 0, none⟩ = false := (by simp [World.frozen?, H5.out.2.2]); have x0 : w5.cell? ⟨eb, 0, none⟩ = some (.int .i64 0) := (cellq_any H5.out.2.2).trans rfl)
   refine wp_world (fun w' => C.Own w' (.slice ao (encT t).length c) (encT t) /\ Below w1.heap.size w1 w' /\ w'.heap[eb]? = some (.cells #[.int .i64 0] 35)) ⟨H5.out.1.kept fun k hk => Below.heap_setCell _ _ _ _ fun e => ?_, H5.out.2.1.setCell (p := ⟨eb, 0, none⟩) HS.out.2.2.1 _, heap_set H5.out.2.2 _ _⟩ fun w6 h6 => ?_
   ·rw [e] at hk
    exact absurd hk.symm (own_neF H5.out.1 H5.out.2.2 (by decide))
   have H6 : Hid (C.Own w6 (.slice ao (encT t).length c) (encT t) /\ Below w1.heap.size w1 w6) := ⟨h6.1, h6.2.1⟩
   have y0 : w6.cell? ⟨eb, 0, none⟩ = some (.int .i64 0) := (cellq_any h6.2.2).trans rfl
   clear h6 H5 f0 x0
   have CS : Hid (Calls Tryz.prog 34 #[.int .u8 3, .slice ao (encT t).length c] w6 fun e w' => ∃ a N c, e = .returned (.tuple #[.slice a N c, .int .i64 (sealE (encT t))]) /\ C.Own w' (.slice a N c) (sealB 3 (encT t)) /\ Below w6.heap.size w6 w') := by
    obtain ⟨a', c', e1, e2, e3⟩ := C.Own.row H6.out.1
    simp only [Value.slice.injEq] at e1
    obtain ⟨rfl, -, rfl⟩ := e1
    exact seal_ends 3 _ _ _ (encT t) w6 rfl (by decide) (by decide) HS.out.2.2.2 (HMG.out _ (HBB.out _ H6.out.2)) e3 fun h => (e2 h).2
   go_wp2_with (go_at_call 34; refine CS.out.mono ?_; rintro e w7 ⟨a7, N7, c7, rfl, o7, b7⟩; have H7 : Hid (C.Own w7 (.slice a7 N7 c7) (sealB 3 (encT t)) /\ Below w.heap.size w w7) := ⟨o7, HBB.out _ (H6.out.2.trans (b7.mono H6.out.2.size))⟩; clear o7 b7)
   refine bodyPost_ret (v := .tuple #[.slice a7 N7 c7, .int .i64 (sealE (encT t))]) (by simp [results, Tryz.results11, go_sem]) rfl ?_
   refine ⟨H7.out.2, a7, N7, c7, ?_, ?_⟩
   ·rw [HU.out]
   ·rw [HU.out]; exact H7.out.1
  ·have HU : Hid (encU t = ([], 5)) := by show _ = _; unfold encU; rw [if_neg (by simpa using HF.out), if_pos (by omega)]
   have hli : 16777216 < (lsA t : Int) := by omega
   clear HF hle
   go_upto_region 6 with (go_at_call 25; refine CW.out.mono ?_; rintro e w4 ⟨rfl, h4⟩; have H4 : Hid (EnS w1 a b wb eb lb (evT w.heap.size 0 t) w4) := h4; clear h4; obtain ⟨⟨x0, x1, x2⟩, f0, -⟩ := H4.out.toT.cells; rw [HEV.out.1] at x1)
   refine wp_world (fun w' => Below w.heap.size w w' /\ w'.heap[eb]? = some (.cells #[.int .i64 5] 35)) ⟨HBB.out _ (H4.out.toT.setE 5).bel, (H4.out.toT.setE 5).xe⟩ fun w5 h5 => ?_
   have H5 : Hid (Below w.heap.size w w5) := h5.1
   have y0 : w5.cell? ⟨eb, 0, none⟩ = some (.int .i64 5) := (cellq_any h5.2).trans rfl
   clear h5 H4 x0 x1 x2 f0 CW HEV hli
   go_upto_region 7 with fail
   go_region
   all_goals
    have H6 : Hid (Below w.heap.size w w5.drew) := H5.out.drew
    generalize w5.drew = w6 at *
    go_wp2
    refine bodyPost_ret (v := .tuple #[.slice none 0 0, .int .i64 5]) (by simp [results, Tryz.results11, go_sem]) rfl ?_
    refine ⟨H6.out, none, 0, 0, ?_, ?_⟩
    ·rw [HU.out]
    ·rw [HU.out]; exact C.Own.nil _
 ·have CW : Hid (Calls Tryz.prog 25 #[.pointer (some ⟨w.heap.size, 0, none⟩), fnV 29 #[.pointer (some ⟨eb, 0, none⟩), .pointer (some ⟨lb, 0, none⟩), .pointer (some ⟨wb, 0, none⟩)]] w3 fun e w' => e = .returned (.tuple #[]) /\ Below w.heap.size w w' /\ w'.heap[eb]? = some (.cells #[.int .i64 (fcT t)] 35)) := (CWK.out _ _ _ _ _ _ H3.out).mono fun e w' ⟨e1, e2⟩ => ⟨e1, by
   rcases e2 with e2 | ⟨-, e2, e3⟩
   ·exact absurd (HEV.out.2.2.1 e2.ok) hf
   ·exact ⟨HBB.out _ e2, e3⟩⟩
  have HU : Hid (encU t = ([], fcT t)) := by show _ = _; unfold encU; rw [if_pos hf]
  have t1 : (fcT t == 0) = false := by simpa using hf
  have t2 : (fcT t != 0) = true := by simpa using hf
  clear CWK H3 hf HEV HMG
  go_upto_region 7 with (go_at_call 25; refine CW.out.mono ?_; rintro e w4 ⟨rfl, b4, h4⟩; have H5 : Hid (Below w.heap.size w w4) := b4; have y0 : w4.cell? ⟨eb, 0, none⟩ = some (.int .i64 (fcT t)) := (cellq_any h4).trans rfl; clear h4 b4)
  go_region
  all_goals
   have H6 : Hid (Below w.heap.size w w4.drew) := H5.out.drew
   generalize w4.drew = w6 at *
   go_wp2
   refine bodyPost_ret (v := .tuple #[.slice none 0 0, .int .i64 (fcT t)]) (by simp [results, Tryz.results11, go_sem]) rfl ?_
   refine ⟨H6.out, none, 0, 0, ?_, ?_⟩
   ·rw [HU.out]
   ·rw [HU.out]; exact C.Own.nil _
end Go.Proofs.YtobhemaikomdaaaGreatDoor
