import Derived.Test.YthgnhdnmcjpdmaaGreatDoorPGDec5ToGDec8
import Derived.Test.YthgnhdnmcjpdmaaGreatDoorPGEnc3
namespace Go.Proofs.YthgnhdnmcjpdmaaGreatDoor
set_option linter.unusedVariables false
set_option maxRecDepth 100000
set_option maxHeartbeats 16000000
open Go.RowKit
def LV.core (q : LV) : Int × List Int := (q.assoc, q.terms)
structure LO (B : Nat) (w : World) (v : Value) (l : List LV) : Prop where
 row : LY w v l
 lo : ∀ j, v.ownBlock = some j -> B <= j
 each : ∀ q ∈ l, IL w (.slice q.ta q.terms.length q.tc) q.terms
 apart : ∀ q ∈ l, ∀ j, (Value.slice q.ta q.terms.length q.tc).ownBlock = some j -> B <= j /\ v.ownBlock ≠ some j
 two : l.Pairwise fun p q => ∀ j, (Value.slice p.ta p.terms.length p.tc).ownBlock = some j -> (Value.slice q.ta q.terms.length q.tc).ownBlock ≠ some j
theorem LO.nil (B : Nat) (w : World) : LO B w (.slice none 0 0) [] := ⟨LY.nil w, fun j hj => (by simp [Value.ownBlock] at hj), fun q hq => (by cases hq), fun q hq => (by cases hq), List.Pairwise.nil⟩
theorem LO.kept {B : Nat} {w w' : World} {v : Value} {l : List LV} (h : LO B w v l) (hb : ∀ k, B <= k -> k < w.heap.size -> w'.heap[k]? = w.heap[k]?) : LO B w' v l :=
 ⟨h.row.kept fun k hk => hb k (h.lo k hk) (h.row.lt k hk), h.lo, fun q hq => (h.each q hq).kept fun k hk => hb k (h.apart q hq k hk).1 ((h.each q hq).lt k hk), h.apart, h.two⟩
theorem LO.later {B : Nat} {w w' : World} {v : Value} {l : List LV} (h : LO B w v l) (hb : Below w.heap.size w w') : LO B w' v l := h.kept fun k _ hk => hb.block k hk
theorem LO.append {B : Nat} {w w' : World} {v v' : Value} {l : List LV} {q : LV} (h : LO B w v l) (h1 : LY w' v' (l ++ [q])) (hg : Grew w w' v v') (hB : B <= w.heap.size) (hq : IL w (.slice q.ta q.terms.length q.tc) q.terms) (hn : ∀ j, (Value.slice q.ta q.terms.length q.tc).ownBlock = some j -> B <= j /\ v.ownBlock ≠ some j /\ ∀ x ∈ l, (Value.slice x.ta x.terms.length x.tc).ownBlock ≠ some j) : LO B w' v' (l ++ [q]) := by
 have hlo : ∀ j, v'.ownBlock = some j -> B <= j := fun j hj => by
  rcases hg.moved with e | ⟨z, e, hz⟩
  ·exact h.lo j (e ▸ hj)
  ·rw [hj] at e; have := Option.some.inj e; omega
 have hk : ∀ j, j < w.heap.size -> v.ownBlock ≠ some j -> w'.heap[j]? = w.heap[j]? := fun j hj hne => hg.grown.block j hj (fun e => hne e.symm)
 have hne : ∀ j, j < w.heap.size -> v.ownBlock ≠ some j -> v'.ownBlock ≠ some j := fun j hj hne e => by
  rcases hg.moved with e' | ⟨z, e', hz⟩
  ·exact hne (e' ▸ e)
  ·rw [e] at e'; have := Option.some.inj e'; omega
 refine ⟨h1, hlo, fun x hx => ?_, fun x hx j hj => ?_, List.pairwise_append.2 ⟨h.two, List.pairwise_singleton _ _, fun x hx y hy j hj hj' => by obtain rfl := List.mem_singleton.1 hy; exact (hn j hj').2.2 x hx hj⟩⟩
 ·rcases List.mem_append.1 hx with hx | hx
  ·exact (h.each x hx).kept fun k hk' => hk k ((h.each x hx).lt k hk') (h.apart x hx k hk').2
  ·obtain rfl := List.mem_singleton.1 hx
   exact hq.kept fun k hk' => hk k (hq.lt k hk') (hn k hk').2.1
 ·rcases List.mem_append.1 hx with hx | hx
  ·exact ⟨(h.apart x hx j hj).1, hne j ((h.each x hx).lt j hj) (h.apart x hx j hj).2⟩
  ·obtain rfl := List.mem_singleton.1 hx
   exact ⟨(hn j hj).1, hne j (hq.lt j hj) (hn j hj).2.1⟩
theorem new2 (w : World) (o : Obj) (x y : Value) (t : TypeId) : ∀ j u, [x, y][j]? = some u -> ((w.alloc o).alloc (.cells #[x, y] t)).cell? ⟨w.heap.size + 1, j, none⟩ = some u := by
 intro j u hu
 rw [cellq_any (two_alloc w o _).2.2]
 simpa using hu
theorem new3 (w : World) (o : Obj) (x y z : Value) (t : TypeId) : ∀ j u, [x, y, z][j]? = some u -> ((w.alloc o).alloc (.cells #[x, y, z] t)).cell? ⟨w.heap.size + 1, j, none⟩ = some u := by
 intro j u hu
 rw [cellq_any (two_alloc w o _).2.2]
 simpa using hu
theorem encV_pos (q : LV) : 0 < (encV q).length := by unfold encV; rw [List.length_append]; have := enc_pos q.assoc; omega
def OkW (q : LV) : Prop := (0 <= q.assoc /\ q.assoc <= 2147483647) /\ (∀ s ∈ q.terms, 0 <= s /\ s <= 2147483647) /\ q.terms.length <= 1000000
theorem rl_lev {wr : World} {r : Nat} {ao : Option Addr} {N cap : Nat} {zs : List Int} {pos : Nat} (h : RAt wr r ao N cap zs pos) (hg : ∀ g, ao = some ⟨g, 0, none⟩ -> g < wr.heap.size) (l : List LV) (t : List Int) (hd : zs.drop pos = encL encV l ++ t) (hz : ∀ s ∈ l, OkW s) (hl : l.length <= 1000000) :
  Calls Tryz.prog 101 #[.pointer (some ⟨r, 0, none⟩), .func (.func 102) #[] #[]] wr fun e w' => ∃ a c L, e = .returned (.slice a l.length c) /\ L.map LV.core = l.map LV.core /\ LO wr.heap.size w' (.slice a l.length c) L /\ RAt w' r ao N cap zs (pos + (encL encV l).length) /\ C.ROnly wr w' r := by
 have hn : l.length <= (l.flatMap encV).length := flat_ge encV (fun s => encV_pos s) l
 have hd1 : zs.drop pos = C.enc 10 (l.length : Int) ++ ((l.flatMap encV).take l.length ++ ((l.flatMap encV).drop l.length ++ t)) := by
  rw [hd, encL, List.append_assoc, <- List.append_assoc ((l.flatMap encV).take l.length), List.take_append_drop]
 have HCN : Hid _ := C.countS_enc zs pos l.length 2147483647 ((l.flatMap encV).take l.length) _ hd1 (by rw [List.length_take]; omega) (by omega) (by omega)
 have HD : Hid (∀ k, k < l.length -> ∃ t', zs.drop (pos + (C.enc 10 (l.length : Int)).length + ((l.take k).flatMap encV).length) = encV (l.getD k .none) ++ t') := fun k hk => by
  refine ⟨(l.drop (k + 1)).flatMap encV ++ t, ?_⟩
  rw [<- List.drop_drop, <- List.drop_drop, hd, encL, List.append_assoc, List.drop_left]
  have e : l.flatMap encV = (l.take k).flatMap encV ++ (encV (l.getD k .none) ++ (l.drop (k + 1)).flatMap encV) := by
   rw [<- List.append_assoc, <- flat_succ encV l k .none hk, <- List.flatMap_append, List.take_append_drop]
  rw [e, List.append_assoc, List.drop_left, List.append_assoc]
 have HZ : Hid (∀ s ∈ l, OkW s) := hz
 have HG : Hid (∀ g, ao = some ⟨g, 0, none⟩ -> g < wr.heap.size) := hg
 have HI : Hid (RAt wr r ao N cap zs pos) := h
 have HLR : Hid (r < wr.heap.size) := h.lt
 obtain ⟨ws, HWS⟩ : ∃ ws : World, Hid (ws = wr) := ⟨_, rfl⟩
 clear h hg hd hd1 hn hz
 go_enter Tryz.func101, Tryz.ntmps101
 go_wp2_with (go_at_call 128; refine (C.count_ok 1 2147483647 HI.out (by omega) (by omega) (by omega) (l.length : Int) (C.enc 10 (l.length : Int)).length HCN.out).mono ?_; rintro e w1 ⟨rfl, h1', o1'⟩; have h1 : Hid (RAt w1 r ao N cap zs (pos + (C.enc 10 (l.length : Int)).length)) := h1'; have o1 : Hid (C.ROnly ws w1 r) := (by rw [HWS.out]; exact o1'); clear h1' o1')
 go_loopw [5, 10] (fun v z wr => ∃ (k : Nat) (L : List LV), k <= l.length /\ z = .int .i64 k /\ L.map LV.core = (l.take k).map LV.core /\ LO ws.heap.size wr v L /\ RAt wr r ao N cap zs (pos + (C.enc 10 (l.length : Int)).length + ((l.take k).flatMap encV).length) /\ C.ROnly ws wr r) (fun _ z _ => l.length - (intOf z).toNat)
 case atStart => exact ⟨0, [], Nat.zero_le _, rfl, by simp, LO.nil _ _, by simpa using h1.out, o1.out⟩
 case round =>
  clear h1 o1
  obtain ⟨k, L, hk, rfl, hM', hS', hR', hO'⟩ := hrel
  have hLk : L.length = k := by
   have := congrArg List.length hM'
   rw [List.length_map, List.length_map, List.length_take] at this
   omega
  obtain ⟨va, vc, rfl⟩ := hS'.row.len
  rw [hLk] at hS'
  rw [hLk]
  have HM : Hid (L.map LV.core = (l.take k).map LV.core) := hM'
  have HS : Hid (LO ws.heap.size wr (.slice va k vc) L) := hS'
  have HR : Hid (RAt wr r ao N cap zs (pos + (C.enc 10 (l.length : Int)).length + ((l.take k).flatMap encV).length)) := hR'
  have HO : Hid (C.ROnly ws wr r) := hO'
  have HTL : Hid (L.length <= 1000000) := by show _ <= _; omega
  clear hS' hM' hR' hO' hLk
  by_cases hlt : k < l.length
  ·have klt : (k : Int) < (l.length : Int) := by omega
   obtain ⟨t', hdk⟩ := HD.out k hlt
   have HDK : Hid _ := hdk
   have hmem : l.getD k .none ∈ l := by simp [List.getD, hlt]
   have HZk : Hid _ := HZ.out _ hmem
   have HNX : Hid (l.take (k + 1) = l.take k ++ [l.getD k .none] /\ ((l.take (k + 1)).flatMap encV).length = ((l.take k).flatMap encV).length + (encV (l.getD k .none)).length) := by
    refine ⟨?_, by rw [flat_succ encV l k .none hlt, List.length_append]⟩
    rw [List.take_succ_eq_append_getElem hlt]
    simp [List.getD, hlt]
   have hpp := encV_pos (l.getD k .none)
   clear hdk hmem
   generalize l.getD k .none = s at *
   obtain ⟨sa, sta, stc, sl⟩ := s
   generalize hP : pos + (C.enc 10 (l.length : Int)).length + ((l.take k).flatMap encV).length = P at *
   have HPE : Hid (pos + (C.enc 10 (l.length : Int)).length + ((l.take k).flatMap encV).length = P) := hP
   generalize hQ : (encV ⟨sa, sta, stc, sl⟩).length = Q at *
   have t1 : (((P + Q : Nat) : Int) == (P : Int)) = false := by simp only [beq_eq_false_iff_ne, ne_eq]; omega
   have t2 : (((P : Int) + (Q : Int)) == (P : Int)) = false := by simp only [beq_eq_false_iff_ne, ne_eq]; omega
   have HQ : Hid ((encV ⟨sa, sta, stc, sl⟩).length = Q) := hQ
   have ARd : Hid (∀ w', C.ROnly wr w' r -> LO ws.heap.size w' (.slice va k vc) L) := fun w' ho => HS.out.kept fun j hj hjs => ho.block j hjs (fun e => by have := HLR.out; have := HWS.out; subst this; omega)
   have HDK2 : Hid (zs.drop P = C.enc 10 sa ++ (encL encI sl ++ t')) := by show _ = _; rw [HDK.out, encV, List.append_assoc]
   have HPQ : Hid (P + (C.enc 10 sa).length + (encL encI sl).length = P + Q) := by show _ = _; rw [<- HQ.out]; simp only [encV, List.length_append]; omega
   clear hP hQ
   go_wp2_with (first
    | (go_at_call 129; guard_hyp HR : Hid (RAt wr r ao N cap zs P); refine (C.rat_any HR.out).mono ?_; rintro e w' ⟨rfl, rfl⟩; have HR0 : Hid (RAt wr r ao N cap zs P) := HR; clear HR)
    | (go_at_call 102; refine (dlev HR0.out (fun g eg => Nat.lt_of_lt_of_le (by have := HG.out g eg; rw [HWS.out]; exact this) HO.out.size) sa sl t' HDK2.out HZk.out.1 HZk.out.2.1 HZk.out.2.2).mono ?_; rintro e w2 ⟨ta, tc, rfl, s2', v2', h2', o2'⟩; have h2 : Hid (RAt w2 r ao N cap zs (P + Q)) := (by rw [<- HPQ.out]; exact h2'); have o2 : Hid (C.ROnly ws w2 r) := HO.out.trans o2'; have S2 : Hid (LO ws.heap.size w2 (.slice va k vc) L) := ARd.out w2 o2'; have I2 : Hid (IL w2 (.slice ta sl.length tc) sl) := s2'; have V2 : Hid (∀ j, (Value.slice ta sl.length tc).ownBlock = some j -> ws.heap.size <= j /\ (Value.slice va k vc).ownBlock ≠ some j /\ ∀ x ∈ L, (Value.slice x.ta x.terms.length x.tc).ownBlock ≠ some j) := (fun j hj => ⟨Nat.le_trans HO.out.size (v2' j hj), fun e => (by have := HS.out.row.lt j e; have := v2' j hj; omega), fun x hx e => (by have := (HS.out.each x hx).lt j e; have := v2' j hj; omega)⟩); clear h2' o2' s2' v2')
    | (go_at_call 129; refine (C.rat_any (h2.out.later (below_alloc w2 _))).mono ?_; rintro e w' ⟨rfl, rfl⟩)
    | (at_builtin; refine wpList_LY_append rfl _ _ rfl _ L rfl ((S2.out.later (below_alloc w2 _)).later (below_alloc _ _)).row _ 1 ⟨sa, ta, tc, sl⟩ rfl (new2 w2 _ _ _ _) (Nat.le_trans HTL.out (by omega)) ?_; intro a4 n4 c4 w4 ho4 hg4))
   go_roundw
   case rel =>
    have hsz : ws.heap.size <= w2.heap.size := o2.out.size
    have hb1 : Below w2.heap.size w2 ((w2.alloc (.cells #[.int .i64 sa, .slice ta sl.length tc] 92)).alloc (.cells #[.int .i64 sa, .slice ta sl.length tc] 92)) := (below_alloc w2 _).trans ((below_alloc _ _).mono (below_alloc w2 _).size)
    have hb2 : Below ws.heap.size ((w2.alloc (.cells #[.int .i64 sa, .slice ta sl.length tc] 92)).alloc (.cells #[.int .i64 sa, .slice ta sl.length tc] 92)) w4 := (Below.refl _ _).grown hg4.grown (Nat.le_trans hsz hb1.size) S2.out.lo
    have hb3 : Below ws.heap.size w2 w4 := (hb1.mono hsz).trans hb2
    have hws := HWS.out
    refine ⟨k + 1, L ++ [⟨sa, ta, tc, sl⟩], by omega, by go_num, ?_, ?_, ?_, ?_⟩
    ·rw [HNX.out.1, List.map_append, List.map_append, HM.out]; rfl
    ·exact (S2.out.later hb1).append ho4 hg4 (Nat.le_trans hsz hb1.size) (I2.out.later hb1) V2.out
    ·rw [HNX.out.2, <- Nat.add_assoc, HPE.out]
     exact rinv_kept2 h2.out (hb3.block r (by rw [hws]; exact HLR.out)) (fun g eg => hb3.block g (by rw [hws]; exact HG.out g eg))
    ·exact ⟨hb3.os.trans o2.out.os, hb3.tape.trans o2.out.tape, hb3.output.trans o2.out.output, Nat.le_trans o2.out.size hb3.size, fun j hj hr => (hb3.block j hj).trans (o2.out.block j hj hr)⟩
   case measure => simp [intOf]; omega
  ·obtain rfl : k = l.length := by omega
   have hR2 := HR.out
   have hM2 := HM.out
   rw [List.take_length] at hR2 hM2
   have HM2 : Hid (L.map LV.core = l.map LV.core) := hM2
   have HR2 : Hid (RAt wr r ao N cap zs (pos + (encL encV l).length)) := by
    show RAt _ _ _ _ _ _ _
    rw [encL, List.length_append, <- Nat.add_assoc]
    exact hR2
   clear hM2 hR2 HR
   go_wp2
   go_ret
   have hws := HWS.out
   subst hws
   exact ⟨va, vc, L, rfl, HM2.out, HS.out, HR2.out, HO.out⟩
def PV.core (q : PV) : Int × List (Int × Int) × Int := (q.left, q.right, q.prec)
structure PO (B : Nat) (w : World) (v : Value) (l : List PV) : Prop where
 row : PY w v l
 lo : ∀ j, v.ownBlock = some j -> B <= j
 each : ∀ q ∈ l, SY w (.slice q.ra q.right.length q.rc) q.right
 apart : ∀ q ∈ l, ∀ j, (Value.slice q.ra q.right.length q.rc).ownBlock = some j -> B <= j /\ v.ownBlock ≠ some j
 two : l.Pairwise fun p q => ∀ j, (Value.slice p.ra p.right.length p.rc).ownBlock = some j -> (Value.slice q.ra q.right.length q.rc).ownBlock ≠ some j
theorem PO.nil (B : Nat) (w : World) : PO B w (.slice none 0 0) [] := ⟨PY.nil w, fun j hj => (by simp [Value.ownBlock] at hj), fun q hq => (by cases hq), fun q hq => (by cases hq), List.Pairwise.nil⟩
theorem PO.kept {B : Nat} {w w' : World} {v : Value} {l : List PV} (h : PO B w v l) (hb : ∀ k, B <= k -> k < w.heap.size -> w'.heap[k]? = w.heap[k]?) : PO B w' v l :=
 ⟨h.row.kept fun k hk => hb k (h.lo k hk) (h.row.lt k hk), h.lo, fun q hq => (h.each q hq).kept fun k hk => hb k (h.apart q hq k hk).1 ((h.each q hq).lt k hk), h.apart, h.two⟩
theorem PO.later {B : Nat} {w w' : World} {v : Value} {l : List PV} (h : PO B w v l) (hb : Below w.heap.size w w') : PO B w' v l := h.kept fun k _ hk => hb.block k hk
theorem PO.append {B : Nat} {w w' : World} {v v' : Value} {l : List PV} {q : PV} (h : PO B w v l) (h1 : PY w' v' (l ++ [q])) (hg : Grew w w' v v') (hB : B <= w.heap.size) (hq : SY w (.slice q.ra q.right.length q.rc) q.right) (hn : ∀ j, (Value.slice q.ra q.right.length q.rc).ownBlock = some j -> B <= j /\ v.ownBlock ≠ some j /\ ∀ x ∈ l, (Value.slice x.ra x.right.length x.rc).ownBlock ≠ some j) : PO B w' v' (l ++ [q]) := by
 have hlo : ∀ j, v'.ownBlock = some j -> B <= j := fun j hj => by
  rcases hg.moved with e | ⟨z, e, hz⟩
  ·exact h.lo j (e ▸ hj)
  ·rw [hj] at e; have := Option.some.inj e; omega
 have hk : ∀ j, j < w.heap.size -> v.ownBlock ≠ some j -> w'.heap[j]? = w.heap[j]? := fun j hj hne => hg.grown.block j hj (fun e => hne e.symm)
 have hne : ∀ j, j < w.heap.size -> v.ownBlock ≠ some j -> v'.ownBlock ≠ some j := fun j hj hne e => by
  rcases hg.moved with e' | ⟨z, e', hz⟩
  ·exact hne (e' ▸ e)
  ·rw [e] at e'; have := Option.some.inj e'; omega
 refine ⟨h1, hlo, fun x hx => ?_, fun x hx j hj => ?_, List.pairwise_append.2 ⟨h.two, List.pairwise_singleton _ _, fun x hx y hy j hj hj' => by obtain rfl := List.mem_singleton.1 hy; exact (hn j hj').2.2 x hx hj⟩⟩
 ·rcases List.mem_append.1 hx with hx | hx
  ·exact (h.each x hx).kept fun k hk' => hk k ((h.each x hx).lt k hk') (h.apart x hx k hk').2
  ·obtain rfl := List.mem_singleton.1 hx
   exact hq.kept fun k hk' => hk k (hq.lt k hk') (hn k hk').2.1
 ·rcases List.mem_append.1 hx with hx | hx
  ·exact ⟨(h.apart x hx j hj).1, hne j ((h.each x hx).lt j hj) (h.apart x hx j hj).2⟩
  ·obtain rfl := List.mem_singleton.1 hx
   exact ⟨(hn j hj).1, hne j (hq.lt j hj) (hn j hj).2.1⟩
theorem encP_pos (q : PV) : 0 < (encP q).length := by unfold encP; rw [List.length_append]; have := enc_pos q.left; omega
def OkQ (q : PV) : Prop := (0 <= q.left /\ q.left <= 2147483647) /\ (-1 <= q.prec /\ q.prec <= 1048576) /\ (∀ s ∈ q.right, (s.1 = 1 ∨ s.1 = 2) /\ 0 <= s.2 /\ s.2 <= 1048576) /\ q.right.length <= 1000000
theorem rl_prod {wr : World} {r : Nat} {ao : Option Addr} {N cap : Nat} {zs : List Int} {pos : Nat} (h : RAt wr r ao N cap zs pos) (hg : ∀ g, ao = some ⟨g, 0, none⟩ -> g < wr.heap.size) (l : List PV) (t : List Int) (hd : zs.drop pos = encL encP l ++ t) (hz : ∀ s ∈ l, OkQ s) (hl : l.length <= 1000000) :
  Calls Tryz.prog 99 #[.pointer (some ⟨r, 0, none⟩), .func (.func 100) #[] #[]] wr fun e w' => ∃ a c L, e = .returned (.slice a l.length c) /\ L.map PV.core = l.map PV.core /\ PO wr.heap.size w' (.slice a l.length c) L /\ RAt w' r ao N cap zs (pos + (encL encP l).length) /\ C.ROnly wr w' r := by
 have hn : l.length <= (l.flatMap encP).length := flat_ge encP (fun s => encP_pos s) l
 have hd1 : zs.drop pos = C.enc 10 (l.length : Int) ++ ((l.flatMap encP).take l.length ++ ((l.flatMap encP).drop l.length ++ t)) := by
  rw [hd, encL, List.append_assoc, <- List.append_assoc ((l.flatMap encP).take l.length), List.take_append_drop]
 have HCN : Hid _ := C.countS_enc zs pos l.length 2147483647 ((l.flatMap encP).take l.length) _ hd1 (by rw [List.length_take]; omega) (by omega) (by omega)
 have HD : Hid (∀ k, k < l.length -> ∃ t', zs.drop (pos + (C.enc 10 (l.length : Int)).length + ((l.take k).flatMap encP).length) = encP (l.getD k .none) ++ t') := fun k hk => by
  refine ⟨(l.drop (k + 1)).flatMap encP ++ t, ?_⟩
  rw [<- List.drop_drop, <- List.drop_drop, hd, encL, List.append_assoc, List.drop_left]
  have e : l.flatMap encP = (l.take k).flatMap encP ++ (encP (l.getD k .none) ++ (l.drop (k + 1)).flatMap encP) := by
   rw [<- List.append_assoc, <- flat_succ encP l k .none hk, <- List.flatMap_append, List.take_append_drop]
  rw [e, List.append_assoc, List.drop_left, List.append_assoc]
 have HZ : Hid (∀ s ∈ l, OkQ s) := hz
 have HG : Hid (∀ g, ao = some ⟨g, 0, none⟩ -> g < wr.heap.size) := hg
 have HI : Hid (RAt wr r ao N cap zs pos) := h
 have HLR : Hid (r < wr.heap.size) := h.lt
 obtain ⟨ws, HWS⟩ : ∃ ws : World, Hid (ws = wr) := ⟨_, rfl⟩
 clear h hg hd hd1 hn hz
 go_enter Tryz.func99, Tryz.ntmps99
 go_wp2_with (go_at_call 128; refine (C.count_ok 1 2147483647 HI.out (by omega) (by omega) (by omega) (l.length : Int) (C.enc 10 (l.length : Int)).length HCN.out).mono ?_; rintro e w1 ⟨rfl, h1', o1'⟩; have h1 : Hid (RAt w1 r ao N cap zs (pos + (C.enc 10 (l.length : Int)).length)) := h1'; have o1 : Hid (C.ROnly ws w1 r) := (by rw [HWS.out]; exact o1'); clear h1' o1')
 go_loopw [5, 10] (fun v z wr => ∃ (k : Nat) (L : List PV), k <= l.length /\ z = .int .i64 k /\ L.map PV.core = (l.take k).map PV.core /\ PO ws.heap.size wr v L /\ RAt wr r ao N cap zs (pos + (C.enc 10 (l.length : Int)).length + ((l.take k).flatMap encP).length) /\ C.ROnly ws wr r) (fun _ z _ => l.length - (intOf z).toNat)
 case atStart => exact ⟨0, [], Nat.zero_le _, rfl, by simp, PO.nil _ _, by simpa using h1.out, o1.out⟩
 case round =>
  clear h1 o1
  obtain ⟨k, L, hk, rfl, hM', hS', hR', hO'⟩ := hrel
  have hLk : L.length = k := by
   have := congrArg List.length hM'
   rw [List.length_map, List.length_map, List.length_take] at this
   omega
  obtain ⟨va, vc, rfl⟩ := hS'.row.len
  rw [hLk] at hS'
  rw [hLk]
  have HM : Hid (L.map PV.core = (l.take k).map PV.core) := hM'
  have HS : Hid (PO ws.heap.size wr (.slice va k vc) L) := hS'
  have HR : Hid (RAt wr r ao N cap zs (pos + (C.enc 10 (l.length : Int)).length + ((l.take k).flatMap encP).length)) := hR'
  have HO : Hid (C.ROnly ws wr r) := hO'
  have HTL : Hid (L.length <= 1000000) := by show _ <= _; omega
  clear hS' hM' hR' hO' hLk
  by_cases hlt : k < l.length
  ·have klt : (k : Int) < (l.length : Int) := by omega
   obtain ⟨t', hdk⟩ := HD.out k hlt
   have HDK : Hid _ := hdk
   have hmem : l.getD k .none ∈ l := by simp [List.getD, hlt]
   have HZk : Hid _ := HZ.out _ hmem
   have HNX : Hid (l.take (k + 1) = l.take k ++ [l.getD k .none] /\ ((l.take (k + 1)).flatMap encP).length = ((l.take k).flatMap encP).length + (encP (l.getD k .none)).length) := by
    refine ⟨?_, by rw [flat_succ encP l k .none hlt, List.length_append]⟩
    rw [List.take_succ_eq_append_getElem hlt]
    simp [List.getD, hlt]
   have hpp := encP_pos (l.getD k .none)
   clear hdk hmem
   generalize l.getD k .none = s at *
   obtain ⟨sa, sta, stc, sl, sp⟩ := s
   generalize hP : pos + (C.enc 10 (l.length : Int)).length + ((l.take k).flatMap encP).length = P at *
   have HPE : Hid (pos + (C.enc 10 (l.length : Int)).length + ((l.take k).flatMap encP).length = P) := hP
   generalize hQ : (encP ⟨sa, sta, stc, sl, sp⟩).length = Q at *
   have t1 : (((P + Q : Nat) : Int) == (P : Int)) = false := by simp only [beq_eq_false_iff_ne, ne_eq]; omega
   have t2 : (((P : Int) + (Q : Int)) == (P : Int)) = false := by simp only [beq_eq_false_iff_ne, ne_eq]; omega
   have HQ : Hid ((encP ⟨sa, sta, stc, sl, sp⟩).length = Q) := hQ
   have ARd : Hid (∀ w', C.ROnly wr w' r -> PO ws.heap.size w' (.slice va k vc) L) := fun w' ho => HS.out.kept fun j hj hjs => ho.block j hjs (fun e => by have := HLR.out; have := HWS.out; subst this; omega)
   have HDK2 : Hid (zs.drop P = C.enc 10 sa ++ (encL encY sl ++ (C.enc 10 (C.foldS sp) ++ t'))) := by show _ = _; rw [HDK.out]; simp only [encP, List.append_assoc]
   have HPQ : Hid (P + (C.enc 10 sa).length + (encL encY sl).length + (C.enc 10 (C.foldS sp)).length = P + Q) := by show _ = _; rw [<- HQ.out]; simp only [encP, List.length_append]; omega
   clear hP hQ
   go_wp2_with (first
    | (go_at_call 129; guard_hyp HR : Hid (RAt wr r ao N cap zs P); refine (C.rat_any HR.out).mono ?_; rintro e w' ⟨rfl, rfl⟩; have HR0 : Hid (RAt wr r ao N cap zs P) := HR; clear HR)
    | (go_at_call 100; refine (dprod HR0.out (fun g eg => Nat.lt_of_lt_of_le (by have := HG.out g eg; rw [HWS.out]; exact this) HO.out.size) sa sl sp t' HDK2.out HZk.out.1 HZk.out.2.1 HZk.out.2.2.1 HZk.out.2.2.2).mono ?_; rintro e w2 ⟨ta, tc, rfl, s2', v2', h2', o2'⟩; have h2 : Hid (RAt w2 r ao N cap zs (P + Q)) := (by rw [<- HPQ.out]; exact h2'); have o2 : Hid (C.ROnly ws w2 r) := HO.out.trans o2'; have S2 : Hid (PO ws.heap.size w2 (.slice va k vc) L) := ARd.out w2 o2'; have I2 : Hid (SY w2 (.slice ta sl.length tc) sl) := s2'; have V2 : Hid (∀ j, (Value.slice ta sl.length tc).ownBlock = some j -> ws.heap.size <= j /\ (Value.slice va k vc).ownBlock ≠ some j /\ ∀ x ∈ L, (Value.slice x.ra x.right.length x.rc).ownBlock ≠ some j) := (fun j hj => ⟨Nat.le_trans HO.out.size (v2' j hj), fun e => (by have := HS.out.row.lt j e; have := v2' j hj; omega), fun x hx e => (by have := (HS.out.each x hx).lt j e; have := v2' j hj; omega)⟩); clear h2' o2' s2' v2')
    | (go_at_call 129; refine (C.rat_any (h2.out.later (below_alloc w2 _))).mono ?_; rintro e w' ⟨rfl, rfl⟩)
    | (at_builtin; refine wpList_PY_append rfl _ _ rfl _ L rfl ((S2.out.later (below_alloc w2 _)).later (below_alloc _ _)).row _ 1 ⟨sa, ta, tc, sl, sp⟩ rfl (new3 w2 _ _ _ _ _) (Nat.le_trans HTL.out (by omega)) ?_; intro a4 n4 c4 w4 ho4 hg4))
   go_roundw
   case rel =>
    have hsz : ws.heap.size <= w2.heap.size := o2.out.size
    have hb1 : Below w2.heap.size w2 ((w2.alloc (.cells #[.int .i64 sa, .slice ta sl.length tc, .int .i64 sp] 75)).alloc (.cells #[.int .i64 sa, .slice ta sl.length tc, .int .i64 sp] 75)) := (below_alloc w2 _).trans ((below_alloc _ _).mono (below_alloc w2 _).size)
    have hb2 : Below ws.heap.size ((w2.alloc (.cells #[.int .i64 sa, .slice ta sl.length tc, .int .i64 sp] 75)).alloc (.cells #[.int .i64 sa, .slice ta sl.length tc, .int .i64 sp] 75)) w4 := (Below.refl _ _).grown hg4.grown (Nat.le_trans hsz hb1.size) S2.out.lo
    have hb3 : Below ws.heap.size w2 w4 := (hb1.mono hsz).trans hb2
    have hws := HWS.out
    refine ⟨k + 1, L ++ [⟨sa, ta, tc, sl, sp⟩], by omega, by go_num, ?_, ?_, ?_, ?_⟩
    ·rw [HNX.out.1, List.map_append, List.map_append, HM.out]; rfl
    ·exact (S2.out.later hb1).append ho4 hg4 (Nat.le_trans hsz hb1.size) (I2.out.later hb1) V2.out
    ·rw [HNX.out.2, <- Nat.add_assoc, HPE.out]
     exact rinv_kept2 h2.out (hb3.block r (by rw [hws]; exact HLR.out)) (fun g eg => hb3.block g (by rw [hws]; exact HG.out g eg))
    ·exact ⟨hb3.os.trans o2.out.os, hb3.tape.trans o2.out.tape, hb3.output.trans o2.out.output, Nat.le_trans o2.out.size hb3.size, fun j hj hr => (hb3.block j hj).trans (o2.out.block j hj hr)⟩
   case measure => simp [intOf]; omega
  ·obtain rfl : k = l.length := by omega
   have hR2 := HR.out
   have hM2 := HM.out
   rw [List.take_length] at hR2 hM2
   have HM2 : Hid (L.map PV.core = l.map PV.core) := hM2
   have HR2 : Hid (RAt wr r ao N cap zs (pos + (encL encP l).length)) := by
    show RAt _ _ _ _ _ _ _
    rw [encL, List.length_append, <- Nat.add_assoc]
    exact hR2
   clear hM2 hR2 HR
   go_wp2
   go_ret
   have hws := HWS.out
   subst hws
   exact ⟨va, vc, L, rfl, HM2.out, HS.out, HR2.out, HO.out⟩
def GO (B : Nat) (w : World) (v : Value) (l : List ByteArray) : Prop := GS w v l /\ ∀ j, v.ownBlock = some j -> B <= j
theorem GO.kept {B : Nat} {w w' : World} {v : Value} {l : List ByteArray} (h : GO B w v l) (hb : ∀ k, B <= k -> k < w.heap.size -> w'.heap[k]? = w.heap[k]?) : GO B w' v l := ⟨h.1.kept fun k hk => hb k (h.2 k hk) (h.1.lt k hk), h.2⟩
theorem GO.mono {B B' : Nat} {w : World} {v : Value} {l : List ByteArray} (h : GO B w v l) (hB : B' <= B) : GO B' w v l := ⟨h.1, fun j hj => Nat.le_trans hB (h.2 j hj)⟩
theorem PO.mono {B B' : Nat} {w : World} {v : Value} {l : List PV} (h : PO B w v l) (hB : B' <= B) : PO B' w v l := ⟨h.row, fun j hj => Nat.le_trans hB (h.lo j hj), h.each, fun q hq j hj => ⟨Nat.le_trans hB (h.apart q hq j hj).1, (h.apart q hq j hj).2⟩, h.two⟩
theorem LO.mono {B B' : Nat} {w : World} {v : Value} {l : List LV} (h : LO B w v l) (hB : B' <= B) : LO B' w v l := ⟨h.row, fun j hj => Nat.le_trans hB (h.lo j hj), h.each, fun q hq j hj => ⟨Nat.le_trans hB (h.apart q hq j hj).1, (h.apart q hq j hj).2⟩, h.two⟩
structure DG (B : Nat) (w : World) (g : GV) : Prop where
 t : GO B w (.slice g.ta g.ts.length g.tc) g.ts
 n_ : GO B w (.slice g.na g.ns.length g.nc) g.ns
 p : PO B w (.slice g.pa g.ps.length g.pc) g.ps
 l : LO B w (.slice g.la g.ls.length g.lc) g.ls
 tn : ∀ j, (Value.slice g.ta g.ts.length g.tc).ownBlock = some j -> (Value.slice g.na g.ns.length g.nc).ownBlock ≠ some j
structure SameG (g g' : GV) : Prop where
 ts : g'.ts = g.ts
 ns : g'.ns = g.ns
 start : g'.start = g.start
 ps : g'.ps.map PV.core = g.ps.map PV.core
 ls : g'.ls.map LV.core = g.ls.map LV.core
structure OkD (g : GV) : Prop where
 ts : ∀ s ∈ g.ts, s.size <= 65536
 ns : ∀ s ∈ g.ns, s.size <= 65536
 st : 0 <= g.start /\ g.start <= 2147483647
 ps : ∀ s ∈ g.ps, OkQ s
 ls : ∀ s ∈ g.ls, OkW s
 tl : g.ts.length <= 1000000
 nl : g.ns.length <= 1000000
 pl : g.ps.length <= 1000000
 ll : g.ls.length <= 1000000
theorem keep_set {wr w1 w2 : World} {r : Nat} (hlt : r < wr.heap.size) (o : Nat) (u : Value) (ho : C.ROnly w1 w2 r) : ∀ k, wr.heap.size + 2 <= k -> k < w1.heap.size -> (w2.setCell ⟨wr.heap.size + 1, o, none⟩ u).heap[k]? = w1.heap[k]? := fun k hk hs => (Below.heap_setCell _ _ _ _ (show k ≠ wr.heap.size + 1 by omega)).trans (ho.block k hs (by omega))
theorem set_keep {wr w2 : World} (o : Nat) (u : Value) : ∀ k, wr.heap.size + 2 <= k -> k < w2.heap.size -> (w2.setCell ⟨wr.heap.size + 1, o, none⟩ u).heap[k]? = w2.heap[k]? := fun k hk _ => Below.heap_setCell _ _ _ _ (show k ≠ wr.heap.size + 1 by omega)
theorem dgram {wr : World} {r : Nat} {ao : Option Addr} {N cap : Nat} {zs : List Int} {pos : Nat} (h : RAt wr r ao N cap zs pos) (hg : ∀ g, ao = some ⟨g, 0, none⟩ -> g < wr.heap.size) (g : GV) (t : List Int) (hd : zs.drop pos = encG g ++ t) (ok : OkD g) :
  Calls Tryz.prog 38 #[.pointer (some ⟨r, 0, none⟩)] wr fun e w' => ∃ g', e = .returned g'.val /\ SameG g g' /\ DG wr.heap.size w' g' /\ RAt w' r ao N cap zs (pos + (encG g).length) /\ C.ROnly wr w' r := by
 obtain ⟨hb0, hx0, hx1⟩ := two_alloc wr (.cells #[.slice none 0 0, .slice none 0 0, .int .i64 0, .slice none 0 0, .slice none 0 0] 26) (.cells #[.slice none 0 0, .slice none 0 0, .int .i64 0, .slice none 0 0, .slice none 0 0] 26)
 have hlt := h.lt
 have hd0 : zs.drop pos = encL encS g.ts ++ (encL encS g.ns ++ (C.enc 10 g.start ++ (encL encP g.ps ++ (encL encV g.ls ++ t)))) := by rw [hd]; simp only [encG, List.append_assoc]
 have hd1 : zs.drop (pos + (encL encS g.ts).length) = encL encS g.ns ++ (C.enc 10 g.start ++ (encL encP g.ps ++ (encL encV g.ls ++ t))) := by rw [<- List.drop_drop, hd0, List.drop_left]
 have hd2 : zs.drop (pos + (encL encS g.ts).length + (encL encS g.ns).length) = C.enc 10 g.start ++ (encL encP g.ps ++ (encL encV g.ls ++ t)) := by rw [<- List.drop_drop, hd1, List.drop_left]
 have hd3 : zs.drop (pos + (encL encS g.ts).length + (encL encS g.ns).length + (C.enc 10 g.start).length) = encL encP g.ps ++ (encL encV g.ls ++ t) := by rw [<- List.drop_drop, hd2, List.drop_left]
 have hd4 : zs.drop (pos + (encL encS g.ts).length + (encL encS g.ns).length + (C.enc 10 g.start).length + (encL encP g.ps).length) = encL encV g.ls ++ t := by rw [<- List.drop_drop, hd3, List.drop_left]
 have HD : Hid (zs.drop pos = encL encS g.ts ++ (encL encS g.ns ++ (C.enc 10 g.start ++ (encL encP g.ps ++ (encL encV g.ls ++ t)))) /\ zs.drop (pos + (encL encS g.ts).length) = encL encS g.ns ++ (C.enc 10 g.start ++ (encL encP g.ps ++ (encL encV g.ls ++ t))) /\ zs.drop (pos + (encL encS g.ts).length + (encL encS g.ns).length) = C.enc 10 g.start ++ (encL encP g.ps ++ (encL encV g.ls ++ t)) /\ zs.drop (pos + (encL encS g.ts).length + (encL encS g.ns).length + (C.enc 10 g.start).length) = encL encP g.ps ++ (encL encV g.ls ++ t) /\ zs.drop (pos + (encL encS g.ts).length + (encL encS g.ns).length + (C.enc 10 g.start).length + (encL encP g.ps).length) = encL encV g.ls ++ t) := ⟨hd0, hd1, hd2, hd3, hd4⟩
 have HL : Hid ((pos + (encL encS g.ts).length + (encL encS g.ns).length + (C.enc 10 g.start).length + (encL encP g.ps).length + (encL encV g.ls).length) = pos + (encG g).length) := by show _ = _; simp only [encG, List.length_append]; omega
 have HO : Hid (C.ROnly wr ((wr.alloc (.cells #[.slice none 0 0, .slice none 0 0, .int .i64 0, .slice none 0 0, .slice none 0 0] 26)).alloc (.cells #[.slice none 0 0, .slice none 0 0, .int .i64 0, .slice none 0 0, .slice none 0 0] 26)) r) := C.ROnly.ofBelow hb0
 have HC : Hid (RAt ((wr.alloc (.cells #[.slice none 0 0, .slice none 0 0, .int .i64 0, .slice none 0 0, .slice none 0 0] 26)).alloc (.cells #[.slice none 0 0, .slice none 0 0, .int .i64 0, .slice none 0 0, .slice none 0 0] 26)) r ao N cap zs pos) := h.later hb0
 have HH : Hid (RAt wr r ao N cap zs pos) := h
 have HG : Hid (∀ w' : World, wr.heap.size <= w'.heap.size -> ∀ g, ao = some ⟨g, 0, none⟩ -> g < w'.heap.size) := fun w' hw g eg => Nat.lt_of_lt_of_le (hg g eg) hw
 have OK : Hid (OkD g) := ok
 have hn0 : (wr.heap.size + 2) <= ((wr.alloc (.cells #[.slice none 0 0, .slice none 0 0, .int .i64 0, .slice none 0 0, .slice none 0 0] 26)).alloc (.cells #[.slice none 0 0, .slice none 0 0, .int .i64 0, .slice none 0 0, .slice none 0 0] 26)).heap.size := lt_of_block hx1
 have HN0 : Hid ((wr.heap.size + 2) <= ((wr.alloc (.cells #[.slice none 0 0, .slice none 0 0, .int .i64 0, .slice none 0 0, .slice none 0 0] 26)).alloc (.cells #[.slice none 0 0, .slice none 0 0, .int .i64 0, .slice none 0 0, .slice none 0 0] 26)).heap.size) := hn0
 have AX : Hid (∀ w1 : World, C.ROnly ((wr.alloc (.cells #[.slice none 0 0, .slice none 0 0, .int .i64 0, .slice none 0 0, .slice none 0 0] 26)).alloc (.cells #[.slice none 0 0, .slice none 0 0, .int .i64 0, .slice none 0 0, .slice none 0 0] 26)) w1 r -> w1.heap[wr.heap.size]? = some (.cells #[.slice none 0 0, .slice none 0 0, .int .i64 0, .slice none 0 0, .slice none 0 0] 26 (0, 0)) /\ w1.heap[wr.heap.size + 1]? = some (.cells #[.slice none 0 0, .slice none 0 0, .int .i64 0, .slice none 0 0, .slice none 0 0] 26 (0, 0))) := fun w1 ho => ⟨(ho.block _ (lt_of_block hx0) (by omega)).trans hx0, (ho.block _ (lt_of_block hx1) (by omega)).trans hx1⟩
 clear h hd hd0 hd1 hd2 hd3 hd4 hg ok hb0 hx0 hx1 hn0
 go_enter Tryz.func38, Tryz.ntmps38
 go_wp2_with (first
  | (go_at_call 96; refine (rl_str h1.out (HG.out _ o1.out.size) g.ns _ HD.out.2.1 OK.out.ns OK.out.nl).mono ?_; rintro e w2 ⟨na, nc, rfl, s', v', h', o'⟩; have TN : Hid (∀ j, (Value.slice ta g.ts.length tc).ownBlock = some j -> (Value.slice na g.ns.length nc).ownBlock ≠ some j) := (fun j hj hk => by have := G1.out.1.lt j hj; have := v' j hk; omega); have e2 := two_keep hlt 0 (.slice ta g.ts.length tc) E1.out o'; clear z1 y1; have z2 : w2.cell? ⟨wr.heap.size + 1, 1, none⟩ = some (.slice none 0 0) := (by rw [cellq_any e2.2]; rfl); have y2 : w2.frozen? ⟨wr.heap.size + 1, 1, none⟩ = false := (by simp [World.frozen?, e2.2]); have h2 : Hid (RAt (w2.setCell ⟨wr.heap.size + 1, 1, none⟩ (.slice na g.ns.length nc)) r ao N cap zs (pos + (encL encS g.ts).length + (encL encS g.ns).length)) := HH.out.patched h' (own_set _ _ _ (by omega)); have o2 : Hid (C.ROnly wr (w2.setCell ⟨wr.heap.size + 1, 1, none⟩ (.slice na g.ns.length nc)) r) := (o1.out.trans o').patched (own_set _ _ _ (by omega)); have E2 : Hid _ := e2; have SZ2 : Hid ((wr.heap.size + 2) <= (w2.setCell ⟨wr.heap.size + 1, 1, none⟩ (.slice na g.ns.length nc)).heap.size) := lt_of_block (heap_set e2.2 _ _); clear hz1; have hz1 : wr.heap.size + 1 < w2.heap.size := lt_of_block e2.2; have G1 : Hid (GO (wr.heap.size + 2) (w2.setCell ⟨wr.heap.size + 1, 1, none⟩ (.slice na g.ns.length nc)) (.slice ta g.ts.length tc) g.ts) := G1.out.kept (keep_set hlt 1 (.slice na g.ns.length nc) o'); have G2 : Hid (GO (wr.heap.size + 2) (w2.setCell ⟨wr.heap.size + 1, 1, none⟩ (.slice na g.ns.length nc)) (.slice na g.ns.length nc) g.ns) := (GO.kept ⟨s', fun j hj => Nat.le_trans SZ1.out (v' j hj)⟩ (set_keep 1 (.slice na g.ns.length nc))); clear h' o' s' v' e2)
  | (go_at_call 96; refine (rl_str HC.out (HG.out _ HO.out.size) g.ts _ HD.out.1 OK.out.ts OK.out.tl).mono ?_; rintro e w1 ⟨ta, tc, rfl, s', v', h', o'⟩; have e1 := AX.out w1 o'; have z1 : w1.cell? ⟨wr.heap.size + 1, 0, none⟩ = some (.slice none 0 0) := (by rw [cellq_any e1.2]; rfl); have y1 : w1.frozen? ⟨wr.heap.size + 1, 0, none⟩ = false := (by simp [World.frozen?, e1.2]); have h1 : Hid (RAt (w1.setCell ⟨wr.heap.size + 1, 0, none⟩ (.slice ta g.ts.length tc)) r ao N cap zs (pos + (encL encS g.ts).length)) := HH.out.patched h' (own_set _ _ _ (by omega)); have o1 : Hid (C.ROnly wr (w1.setCell ⟨wr.heap.size + 1, 0, none⟩ (.slice ta g.ts.length tc)) r) := (HO.out.trans o').patched (own_set _ _ _ (by omega)); have E1 : Hid _ := e1; have SZ1 : Hid ((wr.heap.size + 2) <= (w1.setCell ⟨wr.heap.size + 1, 0, none⟩ (.slice ta g.ts.length tc)).heap.size) := lt_of_block (heap_set e1.2 _ _); have hz1 : wr.heap.size + 1 < w1.heap.size := lt_of_block e1.2; have G1 : Hid (GO (wr.heap.size + 2) (w1.setCell ⟨wr.heap.size + 1, 0, none⟩ (.slice ta g.ts.length tc)) (.slice ta g.ts.length tc) g.ts) := (GO.kept ⟨s', fun j hj => Nat.le_trans HN0.out (v' j hj)⟩ (set_keep 0 (.slice ta g.ts.length tc))); clear h' o' s' v' e1)
  | (go_at_call 98; refine (dint h2.out g.start _ HD.out.2.2.1 OK.out.st.1 OK.out.st.2).mono ?_; rintro e w3 ⟨rfl, h', o'⟩; have e3 := two_keep hlt 1 (.slice na g.ns.length nc) E2.out o'; clear z2 y2; have z3 : w3.cell? ⟨wr.heap.size + 1, 2, none⟩ = some (.int .i64 0) := (by rw [cellq_any e3.2]; rfl); have y3 : w3.frozen? ⟨wr.heap.size + 1, 2, none⟩ = false := (by simp [World.frozen?, e3.2]); have h3 : Hid (RAt (w3.setCell ⟨wr.heap.size + 1, 2, none⟩ (.int .i64 g.start)) r ao N cap zs (pos + (encL encS g.ts).length + (encL encS g.ns).length + (C.enc 10 g.start).length)) := HH.out.patched h' (own_set _ _ _ (by omega)); have o3 : Hid (C.ROnly wr (w3.setCell ⟨wr.heap.size + 1, 2, none⟩ (.int .i64 g.start)) r) := (o2.out.trans o').patched (own_set _ _ _ (by omega)); have E3 : Hid _ := e3; have SZ3 : Hid ((wr.heap.size + 2) <= (w3.setCell ⟨wr.heap.size + 1, 2, none⟩ (.int .i64 g.start)).heap.size) := lt_of_block (heap_set e3.2 _ _); clear hz1; have hz1 : wr.heap.size + 1 < w3.heap.size := lt_of_block e3.2; have G1 : Hid (GO (wr.heap.size + 2) (w3.setCell ⟨wr.heap.size + 1, 2, none⟩ (.int .i64 g.start)) (.slice ta g.ts.length tc) g.ts) := G1.out.kept (keep_set hlt 2 (.int .i64 g.start) o'); have G2 : Hid (GO (wr.heap.size + 2) (w3.setCell ⟨wr.heap.size + 1, 2, none⟩ (.int .i64 g.start)) (.slice na g.ns.length nc) g.ns) := G2.out.kept (keep_set hlt 2 (.int .i64 g.start) o'); clear h' o' e3)
  | (go_at_call 99; refine (rl_prod h3.out (HG.out _ o3.out.size) g.ps _ HD.out.2.2.2.1 OK.out.ps OK.out.pl).mono ?_; rintro e w4 ⟨pa, pc, PL, rfl, m', s', h', o'⟩; have e4 := two_keep hlt 2 (.int .i64 g.start) E3.out o'; clear z3 y3; have z4 : w4.cell? ⟨wr.heap.size + 1, 3, none⟩ = some (.slice none 0 0) := (by rw [cellq_any e4.2]; rfl); have y4 : w4.frozen? ⟨wr.heap.size + 1, 3, none⟩ = false := (by simp [World.frozen?, e4.2]); have h4 : Hid (RAt (w4.setCell ⟨wr.heap.size + 1, 3, none⟩ (.slice pa g.ps.length pc)) r ao N cap zs (pos + (encL encS g.ts).length + (encL encS g.ns).length + (C.enc 10 g.start).length + (encL encP g.ps).length)) := HH.out.patched h' (own_set _ _ _ (by omega)); have o4 : Hid (C.ROnly wr (w4.setCell ⟨wr.heap.size + 1, 3, none⟩ (.slice pa g.ps.length pc)) r) := (o3.out.trans o').patched (own_set _ _ _ (by omega)); have E4 : Hid _ := e4; have SZ4 : Hid ((wr.heap.size + 2) <= (w4.setCell ⟨wr.heap.size + 1, 3, none⟩ (.slice pa g.ps.length pc)).heap.size) := lt_of_block (heap_set e4.2 _ _); clear hz1; have hz1 : wr.heap.size + 1 < w4.heap.size := lt_of_block e4.2; have G1 : Hid (GO (wr.heap.size + 2) (w4.setCell ⟨wr.heap.size + 1, 3, none⟩ (.slice pa g.ps.length pc)) (.slice ta g.ts.length tc) g.ts) := G1.out.kept (keep_set hlt 3 (.slice pa g.ps.length pc) o'); have G2 : Hid (GO (wr.heap.size + 2) (w4.setCell ⟨wr.heap.size + 1, 3, none⟩ (.slice pa g.ps.length pc)) (.slice na g.ns.length nc) g.ns) := G2.out.kept (keep_set hlt 3 (.slice pa g.ps.length pc) o'); have G4 : Hid (PO (wr.heap.size + 2) (w4.setCell ⟨wr.heap.size + 1, 3, none⟩ (.slice pa g.ps.length pc)) (.slice pa g.ps.length pc) PL) := (s'.mono SZ3.out).kept (set_keep 3 (.slice pa g.ps.length pc)); have M4 : Hid _ := m'; clear h' o' s' m' e4)
  | (go_at_call 101; refine (rl_lev h4.out (HG.out _ o4.out.size) g.ls _ HD.out.2.2.2.2 OK.out.ls OK.out.ll).mono ?_; rintro e w5 ⟨la, lc, LL, rfl, m', s', h', o'⟩; have e5 := two_keep hlt 3 (.slice pa g.ps.length pc) E4.out o'; clear z4 y4; have z5 : w5.cell? ⟨wr.heap.size + 1, 4, none⟩ = some (.slice none 0 0) := (by rw [cellq_any e5.2]; rfl); have y5 : w5.frozen? ⟨wr.heap.size + 1, 4, none⟩ = false := (by simp [World.frozen?, e5.2]); have h5 : Hid (RAt (w5.setCell ⟨wr.heap.size + 1, 4, none⟩ (.slice la g.ls.length lc)) r ao N cap zs (pos + (encL encS g.ts).length + (encL encS g.ns).length + (C.enc 10 g.start).length + (encL encP g.ps).length + (encL encV g.ls).length)) := HH.out.patched h' (own_set _ _ _ (by omega)); have o5 : Hid (C.ROnly wr (w5.setCell ⟨wr.heap.size + 1, 4, none⟩ (.slice la g.ls.length lc)) r) := (o4.out.trans o').patched (own_set _ _ _ (by omega)); have E5 : Hid _ := e5; have SZ5 : Hid ((wr.heap.size + 2) <= (w5.setCell ⟨wr.heap.size + 1, 4, none⟩ (.slice la g.ls.length lc)).heap.size) := lt_of_block (heap_set e5.2 _ _); clear hz1; have hz1 : wr.heap.size + 1 < w5.heap.size := lt_of_block e5.2; have G1 : Hid (GO (wr.heap.size + 2) (w5.setCell ⟨wr.heap.size + 1, 4, none⟩ (.slice la g.ls.length lc)) (.slice ta g.ts.length tc) g.ts) := G1.out.kept (keep_set hlt 4 (.slice la g.ls.length lc) o'); have G2 : Hid (GO (wr.heap.size + 2) (w5.setCell ⟨wr.heap.size + 1, 4, none⟩ (.slice la g.ls.length lc)) (.slice na g.ns.length nc) g.ns) := G2.out.kept (keep_set hlt 4 (.slice la g.ls.length lc) o'); have G4 : Hid (PO (wr.heap.size + 2) (w5.setCell ⟨wr.heap.size + 1, 4, none⟩ (.slice la g.ls.length lc)) (.slice pa g.ps.length pc) PL) := G4.out.kept (keep_set hlt 4 (.slice la g.ls.length lc) o'); have G5 : Hid (LO (wr.heap.size + 2) (w5.setCell ⟨wr.heap.size + 1, 4, none⟩ (.slice la g.ls.length lc)) (.slice la g.ls.length lc) LL) := (s'.mono SZ4.out).kept (set_keep 4 (.slice la g.ls.length lc)); have M5 : Hid _ := m'; have zz0 : w5.cell? ⟨wr.heap.size + 1, 0, none⟩ = some (.slice ta g.ts.length tc) := (by rw [cellq_any e5.2]; rfl); have zz1 : w5.cell? ⟨wr.heap.size + 1, 1, none⟩ = some (.slice na g.ns.length nc) := (by rw [cellq_any e5.2]; rfl); have zz2 : w5.cell? ⟨wr.heap.size + 1, 2, none⟩ = some (.int .i64 g.start) := (by rw [cellq_any e5.2]; rfl); have zz3 : w5.cell? ⟨wr.heap.size + 1, 3, none⟩ = some (.slice pa g.ps.length pc) := (by rw [cellq_any e5.2]; rfl); have x0 : w5.cell? ⟨wr.heap.size, 0, none⟩ = some (.slice none 0 0) := (by rw [cellq_any e5.1]; rfl); have yx0 : w5.frozen? ⟨wr.heap.size, 0, none⟩ = false := (by simp [World.frozen?, e5.1]); have x1 : w5.cell? ⟨wr.heap.size, 1, none⟩ = some (.slice none 0 0) := (by rw [cellq_any e5.1]; rfl); have yx1 : w5.frozen? ⟨wr.heap.size, 1, none⟩ = false := (by simp [World.frozen?, e5.1]); have x2 : w5.cell? ⟨wr.heap.size, 2, none⟩ = some (.int .i64 0) := (by rw [cellq_any e5.1]; rfl); have yx2 : w5.frozen? ⟨wr.heap.size, 2, none⟩ = false := (by simp [World.frozen?, e5.1]); have x3 : w5.cell? ⟨wr.heap.size, 3, none⟩ = some (.slice none 0 0) := (by rw [cellq_any e5.1]; rfl); have yx3 : w5.frozen? ⟨wr.heap.size, 3, none⟩ = false := (by simp [World.frozen?, e5.1]); have x4 : w5.cell? ⟨wr.heap.size, 4, none⟩ = some (.slice none 0 0) := (by rw [cellq_any e5.1]; rfl); have yx4 : w5.frozen? ⟨wr.heap.size, 4, none⟩ = false := (by simp [World.frozen?, e5.1]); have hz2 : wr.heap.size < w5.heap.size := lt_of_block e5.1; clear h' o' s' m' e5))
 have hb9 : Below wr.heap.size (w5.setCell ⟨wr.heap.size + 1, 4, none⟩ (.slice la g.ls.length lc)) ((((((w5.setCell ⟨wr.heap.size + 1, 4, none⟩ (.slice la g.ls.length lc)).setCell ⟨wr.heap.size, 0, none⟩ (.slice ta g.ts.length tc)).setCell ⟨wr.heap.size, 1, none⟩ (.slice na g.ns.length nc)).setCell ⟨wr.heap.size, 2, none⟩ (.int .i64 g.start)).setCell ⟨wr.heap.size, 3, none⟩ (.slice pa g.ps.length pc)).setCell ⟨wr.heap.size, 4, none⟩ (.slice la g.ls.length lc)) :=
  ((((own_set _ _ _ (Nat.le_refl _)).trans (own_set _ _ _ (Nat.le_refl _))).trans (own_set _ _ _ (Nat.le_refl _))).trans (own_set _ _ _ (Nat.le_refl _))).trans (own_set _ _ _ (Nat.le_refl _))
 have hk9 : ∀ k, wr.heap.size + 2 <= k -> k < (w5.setCell ⟨wr.heap.size + 1, 4, none⟩ (.slice la g.ls.length lc)).heap.size -> ((((((w5.setCell ⟨wr.heap.size + 1, 4, none⟩ (.slice la g.ls.length lc)).setCell ⟨wr.heap.size, 0, none⟩ (.slice ta g.ts.length tc)).setCell ⟨wr.heap.size, 1, none⟩ (.slice na g.ns.length nc)).setCell ⟨wr.heap.size, 2, none⟩ (.int .i64 g.start)).setCell ⟨wr.heap.size, 3, none⟩ (.slice pa g.ps.length pc)).setCell ⟨wr.heap.size, 4, none⟩ (.slice la g.ls.length lc)).heap[k]? = (w5.setCell ⟨wr.heap.size + 1, 4, none⟩ (.slice la g.ls.length lc)).heap[k]? := fun k hk _ => by
  have hne : k ≠ wr.heap.size := by omega
  rw [Below.heap_setCell _ _ _ _ hne, Below.heap_setCell _ _ _ _ hne, Below.heap_setCell _ _ _ _ hne, Below.heap_setCell _ _ _ _ hne, Below.heap_setCell _ _ _ _ hne]
 have hp : PL.length = g.ps.length := by simpa using congrArg List.length M4.out
 have hl : LL.length = g.ls.length := by simpa using congrArg List.length M5.out
 refine bodyPost_ret (v := .agg #[.slice ta g.ts.length tc, .slice na g.ns.length nc, .int .i64 g.start, .slice pa g.ps.length pc, .slice la g.ls.length lc]) (by simp [results, Tryz.results38, go_sem, x0, x1, x2, x3, x4]) rfl ?_
 refine ⟨⟨ta, tc, g.ts, na, nc, g.ns, g.start, pa, pc, PL, la, lc, LL⟩, ?_, ⟨rfl, rfl, rfl, M4.out, M5.out⟩, ⟨?_, ?_, ?_, ?_, TN.out⟩, ?_, o5.out.patched hb9⟩
 ·simp only [GV.val, hp, hl]
 ·exact (G1.out.kept hk9).mono (by omega)
 ·exact (G2.out.kept hk9).mono (by omega)
 ·simp only [hp]
  exact (G4.out.kept hk9).mono (by omega)
 ·simp only [hl]
  exact (G5.out.kept hk9).mono (by omega)
 ·rw [<- HL.out]
  exact HH.out.patched h5.out hb9
end Go.Proofs.YthgnhdnmcjpdmaaGreatDoor
