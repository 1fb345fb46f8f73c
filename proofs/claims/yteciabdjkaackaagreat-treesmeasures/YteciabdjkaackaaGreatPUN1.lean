import Derived.Test.YteciabdjkaackaaGreatPTSq
import Derived.Test.YteciabdjkaackaaGreatPUB0ToUB1
namespace Go.Proofs.YteciabdjkaackaaGreat
set_option linter.unusedVariables false
open Go.RowKit
theorem sgs_free {a b : TV} {y : Int × Int × ByteArray × Nat} {Z : List (Int × Int × ByteArray × Nat)} (h : sgs a = sgs b ++ y :: Z) : False := by
 obtain ⟨⟨x, h1, -⟩, -⟩ := bld_one a
 obtain ⟨⟨z, h2, -⟩, -⟩ := bld_tree b (y :: Z)
 rw [h, h2, bldG] at h1
 simp at h1
set_option linter.unusedSimpArgs false in
set_option maxRecDepth 100000 in
set_option maxHeartbeats 4000000 in
theorem alike_N {p q p' q' : Nat} {a b : TV} {w : World} (ha : TBx w p q a) (hb : TBx w p' q' b) (hs : ¬ sgV a = sgV b) : Calls Tryz.prog 50 #[.pointer (some ⟨p, q, none⟩), .pointer (some ⟨p', q', none⟩)] w fun e w' => e = .returned (.bool false) /\ Below w.heap.size w w' := by
 obtain ⟨-, a0, a1, a2, a3⟩ := ha
 obtain ⟨-, b0, b1, b2, b3⟩ := hb
 have HP : ¬ a.prod = b.prod ∨ (a.prod = b.prod /\ ¬ a.kind = b.kind) ∨ (a.prod = b.prod /\ a.kind = b.kind /\ ¬ a.tx = b.tx) ∨ (a.prod = b.prod /\ a.kind = b.kind /\ a.tx = b.tx /\ ¬ a.kids.length = b.kids.length) := by
  by_cases h1 : a.prod = b.prod
  ·by_cases h2 : a.kind = b.kind
   ·by_cases h3 : a.tx = b.tx
    ·by_cases h4 : a.kids.length = b.kids.length
     ·exact (hs (by unfold sgV; rw [h1, h2, h3, h4])).elim
     ·exact .inr (.inr (.inr ⟨h1, h2, h3, h4⟩))
    ·exact .inr (.inr (.inl ⟨h1, h2, h3⟩))
   ·exact .inr (.inl ⟨h1, h2⟩)
  ·exact .inl h1
 clear hs
 have HBW : Hid (∀ n, Below w.heap.size w (w.drewN n)) := fun n => below_drewN (Below.refl _ _) n
 generalize a.prod = tp at *
 generalize a.kind = tk at *
 generalize a.tx = tx at *
 generalize a.kids.length = tn at *
 generalize b.prod = up at *
 generalize b.kind = uk at *
 generalize b.tx = ux at *
 generalize b.kids.length = un at *
 generalize a.ka = ta at *
 generalize a.kc = tc at *
 generalize b.ka = tb at *
 generalize b.kc = td at *
 go_enter Tryz.func50, Tryz.ntmps50
 rcases HP with n1 | ⟨rfl, n2⟩ | ⟨rfl, rfl, n3⟩ | ⟨rfl, rfl, rfl, n4⟩
 ·have t1 : (tp == up) = false := by simpa using n1
  clear n1
  go_upto_region 1 with fail
  go_quiet (fail)
  obtain ⟨wd, hwd⟩ : ∃ wd : World, wd = w.drewN nq := ⟨_, rfl⟩
  have HD : Hid (Below w.heap.size w wd) := by rw [hwd]; exact HBW.out nq
  rw [<- hwd]
  go_wp2
  go_ret
  exact ⟨by simp, HD.out⟩
 ·have t2 : (tk == uk) = false := by simpa using n2
  clear n2
  go_upto_region 1 with fail
  go_quiet (fail)
  obtain ⟨wd, hwd⟩ : ∃ wd : World, wd = w.drewN nq := ⟨_, rfl⟩
  have HD : Hid (Below w.heap.size w wd) := by rw [hwd]; exact HBW.out nq
  rw [<- hwd]
  go_wp2
  go_ret
  exact ⟨by simp, HD.out⟩
 ·have t3 : ¬ tx.toList = ux.toList := fun e => n3 (by rw [ByteArray.toList_eq, ByteArray.toList_eq] at e; exact ByteArray.ext (Array.toList_inj.1 e))
  clear n3
  go_upto_region 1 with fail
  go_quiet (fail)
  obtain ⟨wd, hwd⟩ : ∃ wd : World, wd = w.drewN nq := ⟨_, rfl⟩
  have HD : Hid (Below w.heap.size w wd) := by rw [hwd]; exact HBW.out nq
  rw [<- hwd]
  go_wp2
  go_ret
  exact ⟨by simp, HD.out⟩
 ·have t4 : ((tn : Int) == (un : Int)) = false := by simp; omega
  clear n4
  go_upto_region 1 with fail
  go_quiet (fail)
  obtain ⟨wd, hwd⟩ : ∃ wd : World, wd = w.drewN nq := ⟨_, rfl⟩
  have HD : Hid (Below w.heap.size w wd) := by rw [hwd]; exact HBW.out nq
  rw [<- hwd]
  go_wp2
  go_ret
  exact ⟨by simp, HD.out⟩
theorem alike_B {p q p' q' : Nat} {a b : TV} {w : World} {β : Bool} (ha : TBx w p q a) (hb : TBx w p' q' b) (hs : β = true ↔ sgV a = sgV b) : Calls Tryz.prog 50 #[.pointer (some ⟨p, q, none⟩), .pointer (some ⟨p', q', none⟩)] w fun e w' => e = .returned (.bool β) /\ Below w.heap.size w w' := by
 cases β
 ·exact alike_N ha hb fun e => by have := hs.2 e; cases this
 ·exact alike_W ha hb (hs.1 rfl)
theorem sam_of_sgsN {a b : TV} (h : sgs a = sgs b) : samV a b := by
 obtain ⟨⟨x, h1, h2⟩, -⟩ := bld_one a
 obtain ⟨⟨y, h3, h4⟩, -⟩ := bld_one b
 rw [h, h3] at h1
 injection h1 with h1
 subst h1
 exact samV_trans _ _ _ (samV_symm _ _ h2) h4
structure SmN (w0 : World) (b : TV) (ob sb : Nat) (D : List EV) (w : World) : Prop where
 bel : Below w0.heap.size w0 w
 no : w0.heap.size <= ob
 ns : w0.heap.size <= sb
 sx : w.heap[sb]? = some (.cells #[.bool true] 4)
 bx : ∃ v, ∃ os : List (Nat × Nat × TV), w.heap[ob]? = some (.cells #[v] 91) /\ w.ownsRow w0.heap.size 75 1 v (os.map fun x => (x.1, x.2.1)).length (ptC (os.map fun x => (x.1, x.2.1))) /\ (∀ x ∈ os, TBx w0 x.1 x.2.1 x.2.2 /\ TAt w0 x.2.2) /\ sgs b = (enE D).map sgV ++ (os.reverse.flatMap fun x => preT x.2.2).map sgV
structure FnN (w0 : World) (sb : Nat) (w : World) : Prop where
 bel : Below w0.heap.size w0 w
 sx : w.heap[sb]? = some (.cells #[.bool false] 4)
section
variable {w0 w w' : World} {a b : TV} {ob sb : Nat} {D : List EV}
theorem SmN.still (h : SmN w0 b ob sb D w) (hn : NoStp w0.heap.size w w') : SmN w0 b ob sb D w' := by
 obtain ⟨v, os, h1, h2, h3, h4⟩ := h.bx
 refine ⟨hn.bel h.bel, h.no, h.ns, hn.keep _ _ h.sx (fun ⟨_, s⟩ => not_stp (by decide) s), v, os, hn.keep _ _ h1 (fun ⟨_, s⟩ => not_stp (by decide) s), ⟨h2.1, ?_⟩, h3, h4⟩
 rcases h2.2 with q | ⟨g, cap, cur, rfl, k1, k2, k3⟩
 ·exact .inl q
 ·exact .inr ⟨g, cap, cur, rfl, k1, hn.keep _ _ k2 (fun ⟨_, s⟩ => not_stp (by decide) s), k3⟩
theorem SmN.leave (h : SmN w0 b ob sb D w) (p q : Nat) (t : TV) : SmN w0 b ob sb (D ++ [⟨false, p, q, t⟩]) w := by
 obtain ⟨v, os, h1, h2, h3, h4⟩ := h.bx
 exact ⟨h.bel, h.no, h.ns, h.sx, v, os, h1, h2, h3, by rw [enE_app, enE_out, List.append_nil]; exact h4⟩
set_option linter.unusedSimpArgs false in
set_option maxRecDepth 100000 in
set_option maxHeartbeats 4000000 in
theorem same1_N {p q : Nat} {x : TV} {R : List TV} (h : SmN w0 b ob sb D w) (hx : TBx w0 p q x) (hp : enE D ++ x :: R = preT a) (hsz : szT b <= 100000000) : Calls Tryz.prog 49 #[.pointer (some ⟨p, q, none⟩), .pointer (some ⟨ob, 0, none⟩), .pointer (some ⟨sb, 0, none⟩)] w fun e w' => ∃ r, e = .returned (.bool r) /\ OnStp w0.heap.size w w' /\ (r = true -> SmN w0 b ob sb (D ++ [⟨true, p, q, x⟩]) w') /\ (r = false -> FnN w0 sb w') := by
 obtain ⟨v, os, h1, h2, h3, h4⟩ := h.bx
 obtain ⟨os', o, rfl⟩ : ∃ os' o, os = os' ++ [o] := by
  have : os ≠ [] := fun e => by
   rw [e] at h4
   refine sgs_free (a := a) (b := b) (y := sgV x) (Z := R.map sgV) ?_
   rw [h4]
   unfold sgs
   rw [<- hp]
   simp
  exact ⟨os.dropLast, os.getLast this, (List.dropLast_concat_getLast this).symm⟩
 obtain ⟨po, qo, o⟩ := o
 rw [List.reverse_append, List.reverse_singleton, List.singleton_append, List.flatMap_cons] at h4
 dsimp only at h4
 rw [preT_eq, List.cons_append, List.map_cons] at h4
 obtain ⟨β, hβ⟩ : ∃ β : Bool, (β = true ↔ sgV x = sgV o) := ⟨decide (sgV x = sgV o), by simp⟩
 obtain ⟨hTo, hAo⟩ := h3 (po, qo, o) (by simp)
 dsimp only at hTo hAo
 rw [List.map_append, List.map_singleton] at h2
 dsimp only at h2
 obtain ⟨g, cap, rfl, hcap, hcell, hpre⟩ := ptr_last h2
 have hosl : (os'.map fun x => (x.1, x.2.1)).length = os'.length := by simp
 have hbel := h.bel
 have hlen : os'.length + o.kids.length <= 1000000000 := by
  have e1 := congrArg List.length h4
  unfold sgs at e1
  rw [List.length_map, pre_len, List.length_append, List.length_cons, List.length_map, List.length_map, List.length_append] at e1
  have e3 : o.kids.length <= (preL o.kids).length := by
   have q1 := pre_len o
   rw [preT_eq, List.length_cons, szT_eq] at q1
   have q2 := szL_len o.kids
   omega
  have e4 : os'.length <= (os'.reverse.flatMap fun x => preT x.2.2).length := by
   rw [<- List.length_reverse]
   generalize os'.reverse = z
   induction z with
   | nil => exact Nat.zero_le _
   | cons y z iz =>
    rw [List.flatMap_cons, List.length_append, List.length_cons, pre_len, szT_eq]
    omega
  omega
 have HT : ∀ W', Below w0.heap.size w0 W' -> TBx W' po qo o /\ KRow W' o.ka o.kids := fun W' hb => ⟨hTo.later hb, hAo.row.later hb⟩
 have CA : Hid (Calls Tryz.prog 50 #[.pointer (some ⟨p, q, none⟩), .pointer (some ⟨po, qo, none⟩)] w fun e w' => e = .returned (.bool β) /\ Below w.heap.size w w') := alike_B (hx.later hbel) (HT w hbel).1 hβ
 have CP : Hid (∀ w', Below w0.heap.size w0 w' -> w'.ownsRow w0.heap.size 75 1 (.slice (some ⟨g, 0, none⟩) os'.length cap) (os'.map fun x => (x.1, x.2.1)).length (ptC (os'.map fun x => (x.1, x.2.1))) -> Calls Tryz.prog 51 #[.slice (some ⟨g, 0, none⟩) os'.length cap, .pointer (some ⟨po, qo, none⟩)] w' fun e w'' => ∃ va vn vc, e = .returned (.slice va vn vc) /\ w''.ownsRow w0.heap.size 75 1 (.slice va vn vc) ((os'.map fun x => (x.1, x.2.1)) ++ (bkQ o.kids.length).map fun x => kpA o x.1).length (ptC ((os'.map fun x => (x.1, x.2.1)) ++ (bkQ o.kids.length).map fun x => kpA o x.1)) /\ Below w0.heap.size w' w'' /\ FrQ w' w'') := fun w' hb hv => (pushKids_W w0.heap.size _ _ po qo o w' hb.size hv (fun W' hW => HT W' (hb.trans hW)) (by rw [hosl]; exact hlen)).mono fun e w'' ⟨v', e1, e2, e3⟩ => by
  obtain ⟨a, c, rfl⟩ := ownsRow_sl e2
  exact ⟨_, _, _, e1, e2, e3⟩
 have FIN : Hid (∀ v' w', Below w0.heap.size w0 w' -> w'.heap[sb]? = some (.cells #[.bool β] 4) -> w'.heap[ob]? = some (.cells #[v'] 91) -> w'.ownsRow w0.heap.size 75 1 v' ((os'.map fun x => (x.1, x.2.1)) ++ (bkQ o.kids.length).map fun x => kpA o x.1).length (ptC ((os'.map fun x => (x.1, x.2.1)) ++ (bkQ o.kids.length).map fun x => kpA o x.1)) -> (β = true -> SmN w0 b ob sb (D ++ [⟨true, p, q, x⟩]) w') /\ (β = false -> FnN w0 sb w')) := fun v' w' hb hs ho hv => by
  refine ⟨fun hb1 => ?_, fun hb0 => ⟨hb, by rw [hb0] at hs; exact hs⟩⟩
  rw [hb1] at hs
  have em : ((os' ++ (bkQ o.kids.length).map fun i => ((kpA o i.1).1, (kpA o i.1).2, o.kids.getD i.1 TV.none)).map fun x => (x.1, x.2.1)) = (os'.map fun x => (x.1, x.2.1)) ++ (bkQ o.kids.length).map fun x => kpA o x.1 := by
   rw [List.map_append, List.map_map]
   rfl
  refine ⟨hb, h.no, h.ns, hs, v', os' ++ (bkQ o.kids.length).map fun i => ((kpA o i.1).1, (kpA o i.1).2, o.kids.getD i.1 TV.none), ho, by rw [em]; exact hv, fun y hy => ?_, ?_⟩
  ·rcases List.mem_append.1 hy with hy | hy
   ·exact h3 y (by simp [hy])
   ·obtain ⟨i, -, rfl⟩ := List.mem_map.1 hy
    obtain ⟨b, off, hka, hkb⟩ := krow_kid hAo.row i.2
    have hk := kpA_at hka i.1
    dsimp only
    rw [hk]
    have e : o.kids.getD i.1 TV.none = o.kids[i.1] := by simp [List.getD]
    rw [e]
    exact ⟨hkb, hAo.kid _ (List.getElem_mem _)⟩
  ·rw [List.reverse_append, List.flatMap_append, bkQ_kids, h4, enE_app, enE_in, <- hβ.1 hb1]
   simp
 have x0 : w.cell? ⟨ob, 0, none⟩ = some (.slice (some ⟨g, 0, none⟩) (os'.length + 1) cap) := by rw [cellq_any h1, hosl]; rfl
 have f0 : w.frozen? ⟨ob, 0, none⟩ = false := by simp [World.frozen?, h1]
 have y0 : w.frozen? ⟨sb, 0, none⟩ = false := by simp [World.frozen?, h.sx]
 rw [hosl] at hcell hcap
 have HS : Hid (SmN w0 b ob sb D w) := h
 have H1 : Hid (w.heap[ob]? = some (.cells #[.slice (some ⟨g, 0, none⟩) (os'.length + 1) cap] 91)) := by show _ = _; rw [h1, hosl]
 have HPR : Hid (w.ownsRow w0.heap.size 75 1 (.slice (some ⟨g, 0, none⟩) os'.length cap) (os'.map fun x => (x.1, x.2.1)).length (ptC (os'.map fun x => (x.1, x.2.1)))) := by show World.ownsRow _ _ _ _ _ _ _; have hh := hpre; rw [hosl] at hh ⊢; exact hh
 have hsl : ∀ w', (Instr.slice 91 (.slice (some ⟨g, 0, none⟩) (os'.length + 1) cap) none (some (.int .i64 (os'.length : Int))) none).run Tryz.prog w' = .ok (.slice (some ⟨g, 0, none⟩) os'.length cap) w' := fun w' => slice_toP g cap _ _ (by omega) w'
 have wr1 : IntKind.i64.wrap (((os'.length + 1 : Nat) : Int) - 1) = (os'.length : Int) := by
  rw [show (((os'.length + 1 : Nat) : Int) - 1) = (os'.length : Int) by omega]
  exact IntWalk.i64_in _ ⟨by omega, by omega⟩
 have wr2 : IntKind.i64.wrap ((os'.length : Int) + 1 - 1) = (os'.length : Int) := by
  rw [show ((os'.length : Int) + 1 - 1) = (os'.length : Int) by omega]
  exact IntWalk.i64_in _ ⟨by omega, by omega⟩
 have wr3 : IntKind.i64.wrap (os'.length : Int) = (os'.length : Int) := IntWalk.i64_in _ ⟨by omega, by omega⟩
 clear wr1 wr2
 clear h h1 h2 h3 h4 hx hp hβ hTo hAo hpre HT hlen hcap hosl hbel
 generalize os'.length = ol at *
 go_enter Tryz.func49, Tryz.ntmps49
 go_upto_region 3 with (go_at_call 50; refine CA.out.mono ?_; rintro e w1 ⟨rfl, b1⟩; have S1 : Hid (SmN w0 b ob sb D w1 /\ Below w.heap.size w w1) := ⟨HS.out.still (below_noStp b1), b1⟩; clear b1 x0 f0 y0 CA hcell; have y1 : w1.frozen? ⟨sb, 0, none⟩ = false := (by simp [World.frozen?, S1.out.1.sx]); have y2 : w1.cell? ⟨sb, 0, none⟩ = some (.bool true) := (cellq_any S1.out.1.sx).trans rfl)
 have hne : sb ≠ ob := fun e => by
  obtain ⟨v, os, k1, -⟩ := HS.out.bx
  have k2 := HS.out.sx
  rw [e, k1] at k2
  simp at k2
 refine wp_world (fun w' => Below w0.heap.size w0 w' /\ w'.heap[sb]? = some (.cells #[.bool β] 4) /\ w'.heap[ob]? = some (.cells #[.slice (some ⟨g, 0, none⟩) (ol + 1) cap] 91) /\ w'.ownsRow w0.heap.size 75 1 (.slice (some ⟨g, 0, none⟩) ol cap) (os'.map fun x => (x.1, x.2.1)).length (ptC (os'.map fun x => (x.1, x.2.1))) /\ OnStp w0.heap.size w w') ⟨S1.out.1.bel.setCell (p := ⟨sb, 0, none⟩) HS.out.ns _, heap_set S1.out.1.sx _ _, (Below.heap_setCell _ _ _ _ hne.symm).trans ((S1.out.2.block _ (lt_of_block H1.out)).trans H1.out), ownsRow_set (ownsRow_bel HPR.out S1.out.2) S1.out.1.sx (by decide) 0 _, on_setQ (below_onStp S1.out.2) S1.out.1.sx (by decide) 0 _⟩ fun w2 h2 => ?_
 have S2 : Hid _ := h2
 have x2 : w2.cell? ⟨ob, 0, none⟩ = some (.slice (some ⟨g, 0, none⟩) (ol + 1) cap) := (cellq_any h2.2.2.1).trans rfl
 clear h2 S1 y1 y2 H1 HPR
 have S3F : Hid (∀ (w3 : World) (v' : Value), w3.ownsRow w0.heap.size 75 1 v' ((os'.map fun x => (x.1, x.2.1)) ++ (bkQ o.kids.length).map fun x => kpA o x.1).length (ptC ((os'.map fun x => (x.1, x.2.1)) ++ (bkQ o.kids.length).map fun x => kpA o x.1)) -> Below w0.heap.size w2 w3 -> FrQ w2 w3 -> Hid (Below w0.heap.size w0 w3 /\ w3.heap[sb]? = some (.cells #[.bool β] 4) /\ w3.heap[ob]? = some (.cells #[.slice (some ⟨g, 0, none⟩) (ol + 1) cap] 91) /\ w3.ownsRow w0.heap.size 75 1 v' ((os'.map fun x => (x.1, x.2.1)) ++ (bkQ o.kids.length).map fun x => kpA o x.1).length (ptC ((os'.map fun x => (x.1, x.2.1)) ++ (bkQ o.kids.length).map fun x => kpA o x.1)) /\ OnStp w0.heap.size w w3)) := fun w3 v' o3 b3 f3 => ⟨S2.out.1.trans b3, f3 _ _ S2.out.2.1 (fun ⟨_, _, e⟩ => by simp at e), f3 _ _ S2.out.2.2.1 (fun ⟨_, _, e⟩ => by simp at e), o3, S2.out.2.2.2.2.trans ⟨b3.size, fun j oo hj _ ⟨cs, fz, e⟩ => f3 _ _ hj (fun ⟨_, _, e'⟩ => by rw [e] at e'; simp at e')⟩⟩
 go_upto_region 4 with (go_at_call 51; refine (CP.out _ S2.out.1 S2.out.2.2.2.1).mono ?_; rintro e w3 ⟨va, vn, vc, rfl, o3, b3, f3⟩; have S3 : Hid (Below w0.heap.size w0 w3 /\ w3.heap[sb]? = some (.cells #[.bool β] 4) /\ w3.heap[ob]? = some (.cells #[.slice (some ⟨g, 0, none⟩) (ol + 1) cap] 91) /\ w3.ownsRow w0.heap.size 75 1 (.slice va vn vc) ((os'.map fun x => (x.1, x.2.1)) ++ (bkQ o.kids.length).map fun x => kpA o x.1).length (ptC ((os'.map fun x => (x.1, x.2.1)) ++ (bkQ o.kids.length).map fun x => kpA o x.1)) /\ OnStp w0.heap.size w w3) := S3F.out _ _ o3 b3 f3; clear o3 b3 f3 x2; have f3 : w3.frozen? ⟨ob, 0, none⟩ = false := (by simp [World.frozen?, S3.out.2.2.1]); have g3 : w3.cell? ⟨ob, 0, none⟩ = some (.slice (some ⟨g, 0, none⟩) (ol + 1) cap) := (cellq_any S3.out.2.2.1).trans rfl)
 refine wp_world (fun w' => w'.heap[sb]? = some (.cells #[.bool β] 4) /\ ((β = true -> SmN w0 b ob sb (D ++ [⟨true, p, q, x⟩]) w') /\ (β = false -> FnN w0 sb w')) /\ OnStp w0.heap.size w w') ⟨(Below.heap_setCell _ _ _ _ hne).trans S3.out.2.1, FIN.out _ _ (S3.out.1.setCell (p := ⟨ob, 0, none⟩) HS.out.no _) ((Below.heap_setCell _ _ _ _ hne).trans S3.out.2.1) (heap_set S3.out.2.2.1 _ _) (ownsRow_set S3.out.2.2.2.1 S3.out.2.2.1 (by decide) 0 _), on_setQ S3.out.2.2.2.2 S3.out.2.2.1 (by decide) 0 _⟩ fun w4 h4 => ?_
 have S4 : Hid (w4.heap[sb]? = some (.cells #[.bool β] 4) /\ ((β = true -> SmN w0 b ob sb (D ++ [⟨true, p, q, x⟩]) w4) /\ (β = false -> FnN w0 sb w4)) /\ OnStp w0.heap.size w w4) := h4
 have x4 : w4.cell? ⟨sb, 0, none⟩ = some (.bool β) := (cellq_any h4.1).trans rfl
 clear h4 S3 f3 g3 S2 CP FIN S3F
 go_wp2
 go_ret
 exact ⟨β, rfl, S4.out.2.2, S4.out.2.1.1, S4.out.2.1.2⟩
end
set_option linter.unusedSimpArgs false in
set_option maxRecDepth 100000 in
set_option maxHeartbeats 4000000 in
theorem same_N {a b : TV} {w : World} (ha : TAt w a) (hb : TAt w b) (hs : ¬ samV a b) (hsz : szT a <= 100000000) (hszb : szT b <= 100000000) : Calls Tryz.prog 22 #[a.val, b.val] w fun e w' => e = .returned (.bool false) /\ Below w.heap.size w w' := by
 obtain ⟨w0, hw0⟩ : ∃ w0 : World, w0 = (w.alloc (tBox a)).alloc (tBox b) := ⟨_, rfl⟩
 obtain ⟨k1, k2, k3⟩ := two_allocT w (tBox a) (tBox b)
 rw [<- hw0] at k1 k2 k3
 have hTa : TBx w0 w.heap.size 0 a := by
  obtain ⟨x0, x1, x2, x3⟩ := tb_cells k2
  exact ⟨lt_of_block k2, x0, x1, x2, x3⟩
 have hTb : TBx w0 (w.heap.size + 1) 0 b := by
  obtain ⟨x0, x1, x2, x3⟩ := tb_cells k3
  exact ⟨lt_of_block k3, x0, x1, x2, x3⟩
 have HW0 : Hid (w0 = (w.alloc (tBox a)).alloc (tBox b) /\ Below w.heap.size w w0) := ⟨hw0, k1⟩
 have CWK : Hid (∀ w1 ob sb, SmN w0 b ob sb [] w1 -> Calls Tryz.prog 44 #[.pointer (some ⟨w.heap.size, 0, none⟩), fnV 49 #[.pointer (some ⟨ob, 0, none⟩), .pointer (some ⟨sb, 0, none⟩)]] w1 fun e w' => e = .returned (.tuple #[]) /\ FnN w0 sb w') := fun w1 ob sb h1 => by
  refine (walk_R (St := fun D w' => SmN w0 b ob sb D w') (Fin := fun w' => FnN w0 sb w') ⟨ent_same1, hTa, ha.later k1, hsz, fun D w w' h hn => h.still hn, fun D w h => h.bel, fun D p q x R hD hT w2 h2 => ?_, fun D p q x R w2 _ h2 => h2.leave p q x⟩ w1 h1).mono fun e w' ⟨e1, e2⟩ => ⟨e1, by
   rcases e2 with e2 | e2
   ·exfalso
    obtain ⟨v, os, -, -, -, h4⟩ := e2.bx
    rw [ev_pre] at h4
    have h4 : sgs b = sgs a ++ (os.reverse.flatMap fun x => preT x.2.2).map sgV := h4
    cases hr : (os.reverse.flatMap fun x => preT x.2.2).map sgV with
    | nil => rw [hr, List.append_nil] at h4; exact hs (sam_of_sgsN h4.symm)
    | cons y Z => rw [hr] at h4; exact sgs_free h4
   ·exact e2⟩
  have hpre : enE D ++ x :: enE R = preT a := by
   have := congrArg enE hD
   rw [ev_pre, enE_app, <- List.singleton_append, enE_app, enE_in] at this
   exact this
  exact same1_N h2 hT hpre hszb
 have HST : Hid (∀ w', w' = (((w0.alloc (.cells #[.bool true] 4)).alloc (.cells #[.pointer (some ⟨w.heap.size + 1, 0, none⟩)] 75)).alloc (.cells #[.slice (some ⟨w0.heap.size + 1, 0, none⟩) 1 1] 91)) -> SmN w0 b (w0.heap.size + 1 + 1) w0.heap.size [] w') := fun w' he => by
  have b1 := below_alloc w0 (.cells #[.bool true] 4)
  have n1 := heap_alloc_new w0 (.cells #[.bool true] 4)
  have z1 : (w0.alloc (.cells #[.bool true] 4)).heap.size = w0.heap.size + 1 := by simp
  generalize w0.alloc (.cells #[.bool true] 4) = u1 at *
  have b2 := below_alloc u1 (.cells #[.pointer (some ⟨w.heap.size + 1, 0, none⟩)] 75)
  have n2 := heap_alloc_new u1 (.cells #[.pointer (some ⟨w.heap.size + 1, 0, none⟩)] 75)
  have z2 : (u1.alloc (.cells #[.pointer (some ⟨w.heap.size + 1, 0, none⟩)] 75)).heap.size = w0.heap.size + 1 + 1 := by simp [z1]
  generalize u1.alloc (.cells #[.pointer (some ⟨w.heap.size + 1, 0, none⟩)] 75) = u2 at *
  have b3 := below_alloc u2 (.cells #[.slice (some ⟨w0.heap.size + 1, 0, none⟩) 1 1] 91)
  have n3 := heap_alloc_new u2 (.cells #[.slice (some ⟨w0.heap.size + 1, 0, none⟩) 1 1] 91)
  rw [<- he] at b3 n3
  rw [z1] at n2
  rw [z2] at n3
  have B13 := b2.trans (b3.mono b2.size)
  have B03 := b1.trans (B13.mono b1.size)
  refine ⟨B03, by omega, Nat.le_refl _, (B13.block _ (lt_of_block n1)).trans n1, _, [(w.heap.size + 1, 0, b)], n3, ptr_one (by omega) ((b3.block _ (lt_of_block n2)).trans n2), fun y hy => ?_, ?_⟩
  ·simp only [List.mem_cons, List.not_mem_nil, or_false] at hy
   subst hy
   exact ⟨hTb, hb.later k1⟩
  ·simp [enE, sgs]
 clear ha hb hs hsz hszb hTa hTb k1 k2 k3 hw0
 go_enter Tryz.func22, Tryz.ntmps22
 go_upto_region 1 with fail
 refine wp_world (fun w' => w' = w0) HW0.out.1.symm fun w1 h1 => ?_
 obtain rfl := h1
 go_upto_region 3 with fail
 refine wp_world (fun w' => SmN w1 b (w1.heap.size + 1 + 1) w1.heap.size [] w') (HST.out _ rfl) fun w3 h3 => ?_
 have H3 : Hid (SmN w1 b (w1.heap.size + 1 + 1) w1.heap.size [] w3) := h3
 have HBB : Hid (∀ w', Below w1.heap.size w1 w' -> Below w.heap.size w w') := fun w' hb => HW0.out.2.trans (hb.mono HW0.out.2.size)
 clear h3 HST HW0
 generalize w1.heap.size + 1 + 1 = ob at *
 obtain ⟨sb, hsb⟩ : ∃ sb, sb = w1.heap.size := ⟨_, rfl⟩
 rw [<- hsb]
 rw [<- hsb] at H3
 clear hsb
 go_wp2_with (go_at_call 44; refine (CWK.out _ _ _ H3.out).mono ?_; rintro e w4 ⟨rfl, h4⟩; have H4 : Hid (FnN w1 sb w4) := h4; clear h4 H3; have x4 : w4.cell? ⟨sb, 0, none⟩ = some (.bool false) := (cellq_any H4.out.sx).trans rfl)
 go_ret
 exact ⟨rfl, HBB.out _ H4.out.bel⟩
end Go.Proofs.YteciabdjkaackaaGreat
