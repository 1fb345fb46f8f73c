import Derived.Test.YteciabdjkaackaaGreatPTBqToTPq
import Derived.Test.YteciabdjkaackaaGreatPTDgToTD5
import Derived.BigQuiet
namespace Go.Proofs.YteciabdjkaackaaGreat
set_option linter.unusedVariables false
open Go.RowKit
section
variable {w w' : World} {N : Nat} {v : Value} {l : List (Nat × Nat)}
theorem ptr_last {x : Nat × Nat} (h : w.ownsRow N 75 1 v (l ++ [x]).length (ptC (l ++ [x]))) : ∃ g cap, v = .slice (some ⟨g, 0, none⟩) (l.length + 1) cap /\ l.length + 1 <= cap /\ w.cell? ⟨g, l.length, none⟩ = some (.pointer (some ⟨x.1, x.2, none⟩)) /\ w.ownsRow N 75 1 (.slice (some ⟨g, 0, none⟩) l.length cap) l.length (ptC l) := by
 rcases h.2 with ⟨-, h0⟩ | ⟨g, cap, cur, rfl, h1, h2, h3, h4, h5, h6⟩
 ·simp at h0
 ·simp only [List.length_append, List.length_singleton, Nat.mul_one] at h3 h5 h6 ⊢
  have e : (ptC l ++ [Value.pointer (some ⟨x.1, x.2, none⟩)])[l.length]? = some (.pointer (some ⟨x.1, x.2, none⟩)) := by
   rw [List.getElem?_append_right (by rw [ptC_len]; exact Nat.le_refl _), ptC_len, Nat.sub_self]
   rfl
  rw [ptC_app] at h6
  refine ⟨g, cap, rfl, h3, ?_, by rw [ptC_len, Nat.mul_one], .inr ⟨g, cap, cur, rfl, h1, h2, by omega, h4, by rw [h5, Nat.mul_one], ?_⟩⟩
  ·rw [cellq_any h2, <- Array.getElem?_toList, <- e, <- h6, List.getElem?_take, if_pos (by omega)]
  ·have e2 : cur.toList.take (l.length * 1) = (cur.toList.take (l.length + 1)).take l.length := by
    rw [List.take_take]; congr 1; omega
   rw [e2, h6, List.take_left' (ptC_len l)]
theorem ptr_one {g : Nat} {x : Nat × Nat} (hg : N <= g) (h : w.heap[g]? = some (.cells #[.pointer (some ⟨x.1, x.2, none⟩)] 75)) : w.ownsRow N 75 1 (.slice (some ⟨g, 0, none⟩) 1 1) [x].length (ptC [x]) :=
 ⟨rfl, .inr ⟨g, 1, _, rfl, hg, h, Nat.le_refl _, by decide, rfl, rfl⟩⟩
theorem slice_toP (b lc len i : Nat) (hi : i <= lc) (w : World) : (Instr.slice 91 (.slice (some ⟨b, 0, none⟩) len lc) none (some (.int .i64 (i : Int))) none).run Tryz.prog w = .ok (.slice (some ⟨b, 0, none⟩) i lc) w := by
 obtain ⟨i0, hinf, _, hz1, _⟩ := infoPtr_parts
 have hu : Tryz.prog.underlying 91 = some (.slice (Tryz.prog.elem 91)) := by kernel_rfl
 have he : Tryz.prog.elem 91 = 75 := by kernel_rfl
 have := run_slice_h (P := Tryz.prog) (w := w) 91 (some ⟨b, 0, none⟩) len lc hu .i64 (i : Int) (by omega) (by omega)
 rw [this, he]
 simp [sizeOf, typeInfo, hinf, hz1]
 unfold sliced
 split <;> simp [add_none]
end
theorem sg_partsQ {t u : TV} (h : sgV t = sgV u) : t.prod = u.prod /\ t.kind = u.kind /\ t.tx = u.tx /\ t.kids.length = u.kids.length := by
 unfold sgV at h
 simpa only [Prod.mk.injEq] using h
set_option linter.unusedSimpArgs false in
set_option maxRecDepth 100000 in
set_option maxHeartbeats 4000000 in
theorem alike_W {p q p' q' : Nat} {a b : TV} {w : World} (ha : TBx w p q a) (hb : TBx w p' q' b) (hs : sgV a = sgV b) : Calls Tryz.prog 50 #[.pointer (some ⟨p, q, none⟩), .pointer (some ⟨p', q', none⟩)] w fun e w' => e = .returned (.bool true) /\ Below w.heap.size w w' := by
 obtain ⟨h1, h2, h3, h4⟩ := sg_partsQ hs
 obtain ⟨-, a0, a1, a2, a3⟩ := ha
 obtain ⟨-, b0, b1, b2, b3⟩ := hb
 rw [<- h1] at b0
 rw [<- h2] at b1
 rw [<- h3] at b2
 rw [<- h4] at b3
 clear h1 h2 h3 h4 hs
 have HBW : Hid (∀ n, Below w.heap.size w (w.drewN n)) := fun n => below_drewN (Below.refl _ _) n
 generalize a.prod = tp at *
 generalize a.kind = tk at *
 generalize a.tx = tx at *
 generalize a.kids.length = tn at *
 generalize a.ka = ta at *
 generalize a.kc = tc at *
 generalize b.ka = tb at *
 generalize b.kc = td at *
 go_enter Tryz.func50, Tryz.ntmps50
 go_upto_region 1 with fail
 go_quiet (fail)
 obtain ⟨wd, hwd⟩ : ∃ wd : World, wd = w.drewN nq := ⟨_, rfl⟩
 have HD : Hid (Below w.heap.size w wd) := by rw [hwd]; exact HBW.out nq
 rw [<- hwd]
 go_wp2
 go_ret
 exact ⟨by simp, HD.out⟩
theorem ownsRow_set {w : World} {N k n j : Nat} {τ t : TypeId} {v : Value} {xs : List Value} {Cc : Array Value} {fz : Nat × Nat} (h : w.ownsRow N τ k v n xs) (hj : w.heap[j]? = some (.cells Cc t fz)) (ht : t ≠ τ) (o : Nat) (u : Value) : (w.setCell ⟨j, o, none⟩ u).ownsRow N τ k v n xs := by
 refine ⟨h.1, ?_⟩
 rcases h.2 with q | ⟨g, cap, cur, rfl, h1, h2, h3⟩
 ·exact .inl q
 ·refine .inr ⟨g, cap, cur, rfl, h1, (Below.heap_setCell _ _ _ _ fun e => ?_).trans h2, h3⟩
  have e : g = j := e
  rw [e, hj] at h2
  simp only [Option.some.injEq, Obj.cells.injEq] at h2
  exact ht h2.2.1
theorem on_setQ {w w1 : World} {N j : Nat} {Cc : Array Value} {t : TypeId} {fz : Nat × Nat} (h : OnStp N w1 w) (hj : w.heap[j]? = some (.cells Cc t fz)) (ht : (t == 131) = false) (o : Nat) (u : Value) : OnStp N w1 (w.setCell ⟨j, o, none⟩ u) := by
 refine h.trans ⟨by simp [World.setCell], fun k ob hk _ hs => ?_⟩
 refine (Below.heap_setCell _ _ _ _ fun e => ?_).trans hk
 have e : k = j := e
 rw [e, hj] at hk
 cases hk
 exact not_stp ht hs
theorem ownsRow_sl {w : World} {N k n : Nat} {τ : TypeId} {v : Value} {xs : List Value} (h : w.ownsRow N τ k v n xs) : ∃ a c, v = .slice a n c := by
 rcases h.2 with ⟨rfl, e⟩ | ⟨g, cap, cur, rfl, _⟩
 ·exact ⟨none, 0, by rw [e]⟩
 ·exact ⟨_, _, rfl⟩
structure SmS (w0 : World) (a : TV) (ob sb : Nat) (D : List EV) (w : World) : Prop where
 bel : Below w0.heap.size w0 w
 no : w0.heap.size <= ob
 ns : w0.heap.size <= sb
 sx : w.heap[sb]? = some (.cells #[.bool true] 4)
 bx : ∃ v, ∃ os : List (Nat × Nat × TV), w.heap[ob]? = some (.cells #[v] 91) /\ w.ownsRow w0.heap.size 75 1 v (os.map fun x => (x.1, x.2.1)).length (ptC (os.map fun x => (x.1, x.2.1))) /\ (∀ x ∈ os, TBx w0 x.1 x.2.1 x.2.2 /\ TAt w0 x.2.2) /\ (os.reverse.flatMap fun x => preT x.2.2).map sgV = ((preT a).drop (enE D).length).map sgV
section
variable {w0 w w' : World} {a : TV} {ob sb : Nat} {D : List EV}
theorem SmS.still (h : SmS w0 a ob sb D w) (hn : NoStp w0.heap.size w w') : SmS w0 a ob sb D w' := by
 obtain ⟨v, os, h1, h2, h3, h4⟩ := h.bx
 refine ⟨hn.bel h.bel, h.no, h.ns, hn.keep _ _ h.sx (fun ⟨_, s⟩ => not_stp (by decide) s), v, os, hn.keep _ _ h1 (fun ⟨_, s⟩ => not_stp (by decide) s), ⟨h2.1, ?_⟩, h3, h4⟩
 rcases h2.2 with q | ⟨g, cap, cur, rfl, k1, k2, k3⟩
 ·exact .inl q
 ·exact .inr ⟨g, cap, cur, rfl, k1, hn.keep _ _ k2 (fun ⟨_, s⟩ => not_stp (by decide) s), k3⟩
theorem SmS.leave (h : SmS w0 a ob sb D w) (p q : Nat) (t : TV) : SmS w0 a ob sb (D ++ [⟨false, p, q, t⟩]) w := by
 obtain ⟨v, os, h1, h2, h3, h4⟩ := h.bx
 exact ⟨h.bel, h.no, h.ns, h.sx, v, os, h1, h2, h3, by rw [enE_app, enE_out, List.append_nil]; exact h4⟩
theorem fin_kids (l : List TV) : (List.finRange l.length).map (fun i => l.getD i.1 TV.none) = l := by
 apply List.ext_getElem
 ·simp
 ·intro i h1 h2
  simp [List.getD]
theorem bkQ_kids (o : TV) : ((bkQ o.kids.length).map fun i => ((kpA o i.1).1, (kpA o i.1).2, o.kids.getD i.1 TV.none)).reverse.flatMap (fun x : Nat × Nat × TV => preT x.2.2) = preL o.kids := by
 unfold bkQ preL
 rw [List.map_reverse, List.reverse_reverse, List.flatMap_map]
 conv => rhs; rw [<- fin_kids o.kids, List.flatMap_map]
theorem pre_len (t : TV) : (preT t).length = szT t := by
 induction t using TV.ind with
 | _ t ih =>
  have e : ∀ l : List TV, (∀ k ∈ l, (preT k).length = szT k) -> (preL l).length = szL l := fun l => by
   induction l with
   | nil => intro _; rfl
   | cons x l il =>
    intro h
    show (preT x ++ preL l).length = _
    rw [List.length_append, h x (List.mem_cons_self ..), il fun k hk => h k (List.mem_cons_of_mem _ hk), szL_cons]
  rw [preT_eq, List.length_cons, szT_eq, e _ ih]
theorem ent_same1 : EntW 49 := fun _ _ => by simp
set_option linter.unusedSimpArgs false in
set_option maxRecDepth 100000 in
set_option maxHeartbeats 4000000 in
theorem same1_W {p q : Nat} {x : TV} {R : List TV} (h : SmS w0 a ob sb D w) (hx : TBx w0 p q x) (hp : enE D ++ x :: R = preT a) (hsz : szT a <= 100000000) : Calls Tryz.prog 49 #[.pointer (some ⟨p, q, none⟩), .pointer (some ⟨ob, 0, none⟩), .pointer (some ⟨sb, 0, none⟩)] w fun e w' => e = .returned (.bool true) /\ OnStp w0.heap.size w w' /\ SmS w0 a ob sb (D ++ [⟨true, p, q, x⟩]) w' := by
 obtain ⟨v, os, h1, h2, h3, h4⟩ := h.bx
 have hdr : (preT a).drop (enE D).length = x :: R := by rw [<- hp, List.drop_left]
 rw [hdr] at h4
 obtain ⟨os', o, rfl⟩ : ∃ os' o, os = os' ++ [o] := by
  have : os ≠ [] := fun e => by rw [e] at h4; simp at h4
  exact ⟨os.dropLast, os.getLast this, (List.dropLast_concat_getLast this).symm⟩
 obtain ⟨po, qo, o⟩ := o
 rw [List.reverse_append, List.reverse_singleton, List.singleton_append, List.flatMap_cons] at h4
 dsimp only at h4
 rw [preT_eq, List.cons_append, List.map_cons, List.map_cons] at h4
 simp only [List.cons.injEq] at h4
 obtain ⟨hsg, h4⟩ := h4
 obtain ⟨hTo, hAo⟩ := h3 (po, qo, o) (by simp)
 dsimp only at hTo hAo
 rw [List.map_append, List.map_singleton] at h2
 dsimp only at h2
 obtain ⟨g, cap, rfl, hcap, hcell, hpre⟩ := ptr_last h2
 have hosl : (os'.map fun x => (x.1, x.2.1)).length = os'.length := by simp
 have hbel := h.bel
 have hlen : os'.length + o.kids.length <= 1000000000 := by
  have e1 := congrArg List.length h4
  rw [List.length_map, List.length_map, List.length_append] at e1
  have e2 := congrArg List.length hp
  rw [List.length_append, List.length_cons, pre_len] at e2
  have e3 : o.kids.length <= (preL o.kids).length := by
   have q1 := pre_len o
   rw [preT_eq, List.length_cons, szT_eq] at q1
   have q2 := szL_len o.kids
   omega
  have e4 : os'.length <= (os'.reverse.flatMap fun x => preT x.2.2).length := by
   rw [<- List.length_reverse]
   generalize os'.reverse = z
   induction z with
   | nil => exact Nat.zero_le _
   | cons y z iz =>
    rw [List.flatMap_cons, List.length_append, List.length_cons, pre_len, szT_eq]
    omega
  omega
 have HT : ∀ W', Below w0.heap.size w0 W' -> TBx W' po qo o /\ KRow W' o.ka o.kids := fun W' hb => ⟨hTo.later hb, hAo.row.later hb⟩
 have CA : Hid (Calls Tryz.prog 50 #[.pointer (some ⟨p, q, none⟩), .pointer (some ⟨po, qo, none⟩)] w fun e w' => e = .returned (.bool true) /\ Below w.heap.size w w') := alike_W (hx.later hbel) (HT w hbel).1 hsg.symm
 have CP : Hid (∀ w', Below w0.heap.size w0 w' -> w'.ownsRow w0.heap.size 75 1 (.slice (some ⟨g, 0, none⟩) os'.length cap) (os'.map fun x => (x.1, x.2.1)).length (ptC (os'.map fun x => (x.1, x.2.1))) -> Calls Tryz.prog 51 #[.slice (some ⟨g, 0, none⟩) os'.length cap, .pointer (some ⟨po, qo, none⟩)] w' fun e w'' => ∃ va vn vc, e = .returned (.slice va vn vc) /\ w''.ownsRow w0.heap.size 75 1 (.slice va vn vc) ((os'.map fun x => (x.1, x.2.1)) ++ (bkQ o.kids.length).map fun x => kpA o x.1).length (ptC ((os'.map fun x => (x.1, x.2.1)) ++ (bkQ o.kids.length).map fun x => kpA o x.1)) /\ Below w0.heap.size w' w'' /\ FrQ w' w'') := fun w' hb hv => (pushKids_W w0.heap.size _ _ po qo o w' hb.size hv (fun W' hW => HT W' (hb.trans hW)) (by rw [hosl]; exact hlen)).mono fun e w'' ⟨v', e1, e2, e3⟩ => by
  obtain ⟨a, c, rfl⟩ := ownsRow_sl e2
  exact ⟨_, _, _, e1, e2, e3⟩
 have FIN : Hid (∀ v' w', Below w0.heap.size w0 w' -> w'.heap[sb]? = some (.cells #[.bool true] 4) -> w'.heap[ob]? = some (.cells #[v'] 91) -> w'.ownsRow w0.heap.size 75 1 v' ((os'.map fun x => (x.1, x.2.1)) ++ (bkQ o.kids.length).map fun x => kpA o x.1).length (ptC ((os'.map fun x => (x.1, x.2.1)) ++ (bkQ o.kids.length).map fun x => kpA o x.1)) -> SmS w0 a ob sb (D ++ [⟨true, p, q, x⟩]) w') := fun v' w' hb hs ho hv => by
  have em : ((os' ++ (bkQ o.kids.length).map fun i => ((kpA o i.1).1, (kpA o i.1).2, o.kids.getD i.1 TV.none)).map fun x => (x.1, x.2.1)) = (os'.map fun x => (x.1, x.2.1)) ++ (bkQ o.kids.length).map fun x => kpA o x.1 := by
   rw [List.map_append, List.map_map]
   rfl
  refine ⟨hb, h.no, h.ns, hs, v', os' ++ (bkQ o.kids.length).map fun i => ((kpA o i.1).1, (kpA o i.1).2, o.kids.getD i.1 TV.none), ho, by rw [em]; exact hv, fun y hy => ?_, ?_⟩
  ·rcases List.mem_append.1 hy with hy | hy
   ·exact h3 y (by simp [hy])
   ·obtain ⟨i, -, rfl⟩ := List.mem_map.1 hy
    obtain ⟨b, off, hka, hkb⟩ := krow_kid hAo.row i.2
    have hk := kpA_at hka i.1
    dsimp only
    rw [hk]
    have e : o.kids.getD i.1 TV.none = o.kids[i.1] := by simp [List.getD]
    rw [e]
    exact ⟨hkb, hAo.kid _ (List.getElem_mem _)⟩
  ·rw [List.reverse_append, List.flatMap_append, bkQ_kids, h4, enE_app, enE_in, List.length_append, List.length_singleton, <- List.drop_drop, hdr]
   rfl
 have x0 : w.cell? ⟨ob, 0, none⟩ = some (.slice (some ⟨g, 0, none⟩) (os'.length + 1) cap) := by rw [cellq_any h1, hosl]; rfl
 have f0 : w.frozen? ⟨ob, 0, none⟩ = false := by simp [World.frozen?, h1]
 have y0 : w.frozen? ⟨sb, 0, none⟩ = false := by simp [World.frozen?, h.sx]
 rw [hosl] at hcell hcap
 have HS : Hid (SmS w0 a ob sb D w) := h
 have H1 : Hid (w.heap[ob]? = some (.cells #[.slice (some ⟨g, 0, none⟩) (os'.length + 1) cap] 91)) := by show _ = _; rw [h1, hosl]
 have HPR : Hid (w.ownsRow w0.heap.size 75 1 (.slice (some ⟨g, 0, none⟩) os'.length cap) (os'.map fun x => (x.1, x.2.1)).length (ptC (os'.map fun x => (x.1, x.2.1)))) := by show World.ownsRow _ _ _ _ _ _ _; have hh := hpre; rw [hosl] at hh ⊢; exact hh
 have hsl : ∀ w', (Instr.slice 91 (.slice (some ⟨g, 0, none⟩) (os'.length + 1) cap) none (some (.int .i64 (os'.length : Int))) none).run Tryz.prog w' = .ok (.slice (some ⟨g, 0, none⟩) os'.length cap) w' := fun w' => slice_toP g cap _ _ (by omega) w'
 have wr1 : IntKind.i64.wrap (((os'.length + 1 : Nat) : Int) - 1) = (os'.length : Int) := by
  rw [show (((os'.length + 1 : Nat) : Int) - 1) = (os'.length : Int) by omega]
  exact IntWalk.i64_in _ ⟨by omega, by omega⟩
 have wr2 : IntKind.i64.wrap ((os'.length : Int) + 1 - 1) = (os'.length : Int) := by
  rw [show ((os'.length : Int) + 1 - 1) = (os'.length : Int) by omega]
  exact IntWalk.i64_in _ ⟨by omega, by omega⟩
 have wr3 : IntKind.i64.wrap (os'.length : Int) = (os'.length : Int) := IntWalk.i64_in _ ⟨by omega, by omega⟩
 clear wr1 wr2
 clear h h1 h2 h3 h4 hx hp hdr hsg hTo hAo hpre HT hlen hcap hosl hbel
 generalize os'.length = ol at *
 go_enter Tryz.func49, Tryz.ntmps49
 go_upto_region 3 with (go_at_call 50; refine CA.out.mono ?_; rintro e w1 ⟨rfl, b1⟩; have S1 : Hid (SmS w0 a ob sb D w1 /\ Below w.heap.size w w1) := ⟨HS.out.still (below_noStp b1), b1⟩; clear b1 x0 f0 y0 CA hcell; have y1 : w1.frozen? ⟨sb, 0, none⟩ = false := (by simp [World.frozen?, S1.out.1.sx]); have y2 : w1.cell? ⟨sb, 0, none⟩ = some (.bool true) := (cellq_any S1.out.1.sx).trans rfl)
 have hne : sb ≠ ob := fun e => by
  obtain ⟨v, os, k1, -⟩ := HS.out.bx
  have k2 := HS.out.sx
  rw [e, k1] at k2
  simp at k2
 refine wp_world (fun w' => Below w0.heap.size w0 w' /\ w'.heap[sb]? = some (.cells #[.bool true] 4) /\ w'.heap[ob]? = some (.cells #[.slice (some ⟨g, 0, none⟩) (ol + 1) cap] 91) /\ w'.ownsRow w0.heap.size 75 1 (.slice (some ⟨g, 0, none⟩) ol cap) (os'.map fun x => (x.1, x.2.1)).length (ptC (os'.map fun x => (x.1, x.2.1))) /\ OnStp w0.heap.size w w') ⟨S1.out.1.bel.setCell (p := ⟨sb, 0, none⟩) HS.out.ns _, heap_set S1.out.1.sx _ _, (Below.heap_setCell _ _ _ _ hne.symm).trans ((S1.out.2.block _ (lt_of_block H1.out)).trans H1.out), ownsRow_set (ownsRow_bel HPR.out S1.out.2) S1.out.1.sx (by decide) 0 _, on_setQ (below_onStp S1.out.2) S1.out.1.sx (by decide) 0 _⟩ fun w2 h2 => ?_
 have S2 : Hid _ := h2
 have x2 : w2.cell? ⟨ob, 0, none⟩ = some (.slice (some ⟨g, 0, none⟩) (ol + 1) cap) := (cellq_any h2.2.2.1).trans rfl
 clear h2 S1 y1 y2 H1 HPR
 have S3F : Hid (∀ (w3 : World) (v' : Value), w3.ownsRow w0.heap.size 75 1 v' ((os'.map fun x => (x.1, x.2.1)) ++ (bkQ o.kids.length).map fun x => kpA o x.1).length (ptC ((os'.map fun x => (x.1, x.2.1)) ++ (bkQ o.kids.length).map fun x => kpA o x.1)) -> Below w0.heap.size w2 w3 -> FrQ w2 w3 -> Hid (Below w0.heap.size w0 w3 /\ w3.heap[sb]? = some (.cells #[.bool true] 4) /\ w3.heap[ob]? = some (.cells #[.slice (some ⟨g, 0, none⟩) (ol + 1) cap] 91) /\ w3.ownsRow w0.heap.size 75 1 v' ((os'.map fun x => (x.1, x.2.1)) ++ (bkQ o.kids.length).map fun x => kpA o x.1).length (ptC ((os'.map fun x => (x.1, x.2.1)) ++ (bkQ o.kids.length).map fun x => kpA o x.1)) /\ OnStp w0.heap.size w w3)) := fun w3 v' o3 b3 f3 => ⟨S2.out.1.trans b3, f3 _ _ S2.out.2.1 (fun ⟨_, _, e⟩ => by simp at e), f3 _ _ S2.out.2.2.1 (fun ⟨_, _, e⟩ => by simp at e), o3, S2.out.2.2.2.2.trans ⟨b3.size, fun j oo hj _ ⟨cs, fz, e⟩ => f3 _ _ hj (fun ⟨_, _, e'⟩ => by rw [e] at e'; simp at e')⟩⟩
 go_upto_region 4 with (go_at_call 51; refine (CP.out _ S2.out.1 S2.out.2.2.2.1).mono ?_; rintro e w3 ⟨va, vn, vc, rfl, o3, b3, f3⟩; have S3 : Hid (Below w0.heap.size w0 w3 /\ w3.heap[sb]? = some (.cells #[.bool true] 4) /\ w3.heap[ob]? = some (.cells #[.slice (some ⟨g, 0, none⟩) (ol + 1) cap] 91) /\ w3.ownsRow w0.heap.size 75 1 (.slice va vn vc) ((os'.map fun x => (x.1, x.2.1)) ++ (bkQ o.kids.length).map fun x => kpA o x.1).length (ptC ((os'.map fun x => (x.1, x.2.1)) ++ (bkQ o.kids.length).map fun x => kpA o x.1)) /\ OnStp w0.heap.size w w3) := S3F.out _ _ o3 b3 f3; clear o3 b3 f3 x2; have f3 : w3.frozen? ⟨ob, 0, none⟩ = false := (by simp [World.frozen?, S3.out.2.2.1]); have g3 : w3.cell? ⟨ob, 0, none⟩ = some (.slice (some ⟨g, 0, none⟩) (ol + 1) cap) := (cellq_any S3.out.2.2.1).trans rfl)
 refine wp_world (fun w' => SmS w0 a ob sb (D ++ [⟨true, p, q, x⟩]) w' /\ OnStp w0.heap.size w w') ⟨FIN.out _ _ (S3.out.1.setCell (p := ⟨ob, 0, none⟩) HS.out.no _) ((Below.heap_setCell _ _ _ _ hne).trans S3.out.2.1) (heap_set S3.out.2.2.1 _ _) (ownsRow_set S3.out.2.2.2.1 S3.out.2.2.1 (by decide) 0 _), on_setQ S3.out.2.2.2.2 S3.out.2.2.1 (by decide) 0 _⟩ fun w4 h4 => ?_
 have S4 : Hid (SmS w0 a ob sb (D ++ [⟨true, p, q, x⟩]) w4 /\ OnStp w0.heap.size w w4) := h4
 have x4 : w4.cell? ⟨sb, 0, none⟩ = some (.bool true) := (cellq_any h4.1.sx).trans rfl
 clear h4 S3 f3 g3 S2 CP FIN S3F
 go_wp2
 go_ret
 exact ⟨rfl, S4.out.2, S4.out.1⟩
end
set_option linter.unusedSimpArgs false in
set_option maxRecDepth 100000 in
set_option maxHeartbeats 4000000 in
theorem same_W {a b : TV} {w : World} (ha : TAt w a) (hb : TAt w b) (hs : samV a b) (hsz : szT a <= 100000000) : Calls Tryz.prog 22 #[a.val, b.val] w fun e w' => e = .returned (.bool true) /\ Below w.heap.size w w' := by
 obtain ⟨w0, hw0⟩ : ∃ w0 : World, w0 = (w.alloc (tBox a)).alloc (tBox b) := ⟨_, rfl⟩
 obtain ⟨k1, k2, k3⟩ := two_allocT w (tBox a) (tBox b)
 rw [<- hw0] at k1 k2 k3
 have hTa : TBx w0 w.heap.size 0 a := by
  obtain ⟨x0, x1, x2, x3⟩ := tb_cells k2
  exact ⟨lt_of_block k2, x0, x1, x2, x3⟩
 have hTb : TBx w0 (w.heap.size + 1) 0 b := by
  obtain ⟨x0, x1, x2, x3⟩ := tb_cells k3
  exact ⟨lt_of_block k3, x0, x1, x2, x3⟩
 have HW0 : Hid (w0 = (w.alloc (tBox a)).alloc (tBox b) /\ Below w.heap.size w w0) := ⟨hw0, k1⟩
 have HSP : (preT b).map sgV = (preT a).map sgV := (sam_pre a b hs).symm
 have CWK : Hid (∀ w1 ob sb, SmS w0 a ob sb [] w1 -> Calls Tryz.prog 44 #[.pointer (some ⟨w.heap.size, 0, none⟩), fnV 49 #[.pointer (some ⟨ob, 0, none⟩), .pointer (some ⟨sb, 0, none⟩)]] w1 fun e w' => e = .returned (.tuple #[]) /\ SmS w0 a ob sb (evT w.heap.size 0 a) w') := fun w1 ob sb h1 => by
  refine (walk_R (St := fun D w' => SmS w0 a ob sb D w') (Fin := fun _ => False) ⟨ent_same1, hTa, ha.later k1, hsz, fun D w w' h hn => h.still hn, fun D w h => h.bel, fun D p q x R hD hT w2 h2 => ?_, fun D p q x R w2 _ h2 => h2.leave p q x⟩ w1 h1).mono fun e w' ⟨e1, e2⟩ => ⟨e1, by
   rcases e2 with e2 | e2
   ·exact e2
   ·exact e2.elim⟩
  have hpre : enE D ++ x :: enE R = preT a := by
   have := congrArg enE hD
   rw [ev_pre, enE_app, <- List.singleton_append, enE_app, enE_in] at this
   exact this
  exact (same1_W h2 hT hpre hsz).mono fun e w' ⟨e1, e2, e3⟩ => ⟨true, e1, e2, fun _ => e3, fun q => by cases q⟩
 have HST : Hid (∀ w', w' = (((w0.alloc (.cells #[.bool true] 4)).alloc (.cells #[.pointer (some ⟨w.heap.size + 1, 0, none⟩)] 75)).alloc (.cells #[.slice (some ⟨w0.heap.size + 1, 0, none⟩) 1 1] 91)) -> SmS w0 a (w0.heap.size + 1 + 1) w0.heap.size [] w') := fun w' he => by
  have b1 := below_alloc w0 (.cells #[.bool true] 4)
  have n1 := heap_alloc_new w0 (.cells #[.bool true] 4)
  have z1 : (w0.alloc (.cells #[.bool true] 4)).heap.size = w0.heap.size + 1 := by simp
  generalize w0.alloc (.cells #[.bool true] 4) = u1 at *
  have b2 := below_alloc u1 (.cells #[.pointer (some ⟨w.heap.size + 1, 0, none⟩)] 75)
  have n2 := heap_alloc_new u1 (.cells #[.pointer (some ⟨w.heap.size + 1, 0, none⟩)] 75)
  have z2 : (u1.alloc (.cells #[.pointer (some ⟨w.heap.size + 1, 0, none⟩)] 75)).heap.size = w0.heap.size + 1 + 1 := by simp [z1]
  generalize u1.alloc (.cells #[.pointer (some ⟨w.heap.size + 1, 0, none⟩)] 75) = u2 at *
  have b3 := below_alloc u2 (.cells #[.slice (some ⟨w0.heap.size + 1, 0, none⟩) 1 1] 91)
  have n3 := heap_alloc_new u2 (.cells #[.slice (some ⟨w0.heap.size + 1, 0, none⟩) 1 1] 91)
  rw [<- he] at b3 n3
  rw [z1] at n2
  rw [z2] at n3
  have B13 := b2.trans (b3.mono b2.size)
  have B03 := b1.trans (B13.mono b1.size)
  refine ⟨B03, by omega, Nat.le_refl _, (B13.block _ (lt_of_block n1)).trans n1, _, [(w.heap.size + 1, 0, b)], n3, ptr_one (by omega) ((b3.block _ (lt_of_block n2)).trans n2), fun y hy => ?_, ?_⟩
  ·simp only [List.mem_cons, List.not_mem_nil, or_false] at hy
   subst hy
   exact ⟨hTb, hb.later k1⟩
  ·simpa [enE] using HSP
 clear ha hb hs hsz hTa hTb k1 k2 k3 HSP hw0
 go_enter Tryz.func22, Tryz.ntmps22
 go_upto_region 1 with fail
 refine wp_world (fun w' => w' = w0) HW0.out.1.symm fun w1 h1 => ?_
 obtain rfl := h1
 go_upto_region 3 with fail
 refine wp_world (fun w' => SmS w1 a (w1.heap.size + 1 + 1) w1.heap.size [] w') (HST.out _ rfl) fun w3 h3 => ?_
 have H3 : Hid (SmS w1 a (w1.heap.size + 1 + 1) w1.heap.size [] w3) := h3
 have HBB : Hid (∀ w', Below w1.heap.size w1 w' -> Below w.heap.size w w') := fun w' hb => HW0.out.2.trans (hb.mono HW0.out.2.size)
 clear h3 HST HW0
 generalize w1.heap.size + 1 + 1 = ob at *
 obtain ⟨sb, hsb⟩ : ∃ sb, sb = w1.heap.size := ⟨_, rfl⟩
 rw [<- hsb]
 rw [<- hsb] at H3
 clear hsb
 go_wp2_with (go_at_call 44; refine (CWK.out _ _ _ H3.out).mono ?_; rintro e w4 ⟨rfl, h4⟩; have H4 : Hid (SmS w1 a ob sb (evT w.heap.size 0 a) w4) := h4; clear h4 H3; have x4 : w4.cell? ⟨sb, 0, none⟩ = some (.bool true) := (cellq_any H4.out.sx).trans rfl)
 go_ret
 exact ⟨rfl, HBB.out _ H4.out.bel⟩
end Go.Proofs.YteciabdjkaackaaGreat
