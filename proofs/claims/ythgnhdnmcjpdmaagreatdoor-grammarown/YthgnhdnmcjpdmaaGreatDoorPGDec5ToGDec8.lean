import Derived.Test.YthgnhdnmcjpdmaaGreatDoorPGDecToGDec4
namespace Go.Proofs.YthgnhdnmcjpdmaaGreatDoor
set_option linter.unusedVariables false
set_option maxRecDepth 100000
set_option maxHeartbeats 16000000
open Go.RowKit
theorem encY_pos (s : Int × Int) : 0 < (encY s).length := by unfold encY; exact enc_pos _
theorem rl_sym {wr : World} {r : Nat} {ao : Option Addr} {N cap : Nat} {zs : List Int} {pos : Nat} (h : RAt wr r ao N cap zs pos) (hg : ∀ g, ao = some ⟨g, 0, none⟩ -> g < wr.heap.size) (l : List (Int × Int)) (t : List Int) (hd : zs.drop pos = encL encY l ++ t) (hz : ∀ s ∈ l, (s.1 = 1 ∨ s.1 = 2) /\ 0 <= s.2 /\ s.2 <= 1048576) (hl : l.length <= 1000000) :
  Calls Tryz.prog 133 #[.pointer (some ⟨r, 0, none⟩), .func (.func 134) #[] #[]] wr fun e w' => ∃ a c, e = .returned (.slice a l.length c) /\ SY w' (.slice a l.length c) l /\ (∀ k, (Value.slice a l.length c).ownBlock = some k -> wr.heap.size <= k) /\ RAt w' r ao N cap zs (pos + (encL encY l).length) /\ C.ROnly wr w' r := by
 have hn : l.length <= (l.flatMap encY).length := flat_ge encY (fun s => encY_pos s) l
 have hd1 : zs.drop pos = C.enc 10 (l.length : Int) ++ ((l.flatMap encY).take l.length ++ ((l.flatMap encY).drop l.length ++ t)) := by
  rw [hd, encL, List.append_assoc, <- List.append_assoc ((l.flatMap encY).take l.length), List.take_append_drop]
 have HCN : Hid _ := C.countS_enc zs pos l.length 2147483647 ((l.flatMap encY).take l.length) _ hd1 (by rw [List.length_take]; omega) (by omega) (by omega)
 have HD : Hid (∀ k, k < l.length -> ∃ t', zs.drop (pos + (C.enc 10 (l.length : Int)).length + ((l.take k).flatMap encY).length) = encY (l.getD k (0, 0)) ++ t') := fun k hk => by
  refine ⟨(l.drop (k + 1)).flatMap encY ++ t, ?_⟩
  rw [<- List.drop_drop, <- List.drop_drop, hd, encL, List.append_assoc, List.drop_left]
  have e : l.flatMap encY = (l.take k).flatMap encY ++ (encY (l.getD k (0, 0)) ++ (l.drop (k + 1)).flatMap encY) := by
   rw [<- List.append_assoc, <- flat_succ encY l k (0, 0) hk, <- List.flatMap_append, List.take_append_drop]
  rw [e, List.append_assoc, List.drop_left, List.append_assoc]
 have HZ : Hid (∀ s ∈ l, (s.1 = 1 ∨ s.1 = 2) /\ 0 <= s.2 /\ s.2 <= 1048576) := hz
 have HG : Hid (∀ g, ao = some ⟨g, 0, none⟩ -> g < wr.heap.size) := hg
 have HI : Hid (RAt wr r ao N cap zs pos) := h
 have HLR : Hid (r < wr.heap.size) := h.lt
 obtain ⟨ws, HWS⟩ : ∃ ws : World, Hid (ws = wr) := ⟨_, rfl⟩
 clear h hg hd hd1 hn hz
 go_enter Tryz.func133, Tryz.ntmps133
 go_wp2_with (go_at_call 128; refine (C.count_ok 1 2147483647 HI.out (by omega) (by omega) (by omega) (l.length : Int) (C.enc 10 (l.length : Int)).length HCN.out).mono ?_; rintro e w1 ⟨rfl, h1', o1'⟩; have h1 : Hid (RAt w1 r ao N cap zs (pos + (C.enc 10 (l.length : Int)).length)) := h1'; have o1 : Hid (C.ROnly ws w1 r) := (by rw [HWS.out]; exact o1'); clear h1' o1')
 go_loopw [5, 10] (fun v z wr => ∃ k : Nat, k <= l.length /\ z = .int .i64 k /\ SY wr v (l.take k) /\ (∀ j, v.ownBlock = some j -> ws.heap.size <= j) /\ RAt wr r ao N cap zs (pos + (C.enc 10 (l.length : Int)).length + ((l.take k).flatMap encY).length) /\ C.ROnly ws wr r) (fun _ z _ => l.length - (intOf z).toNat)
 case atStart => exact ⟨0, Nat.zero_le _, rfl, by simpa using SY.nil _, (fun j hj => by simp [Value.ownBlock] at hj), by simpa using h1.out, o1.out⟩
 case round =>
  clear h1 o1
  obtain ⟨k, hk, rfl, hS', hv', hR', hO'⟩ := hrel
  obtain ⟨va, vc, rfl⟩ := sy_len hS'
  have hkl : (l.take k).length = k := by rw [List.length_take]; omega
  rw [hkl] at hS' hv'
  rw [hkl]
  have HS : Hid (SY wr (.slice va k vc) (l.take k)) := hS'
  have HV : Hid (∀ j, (Value.slice va k vc).ownBlock = some j -> ws.heap.size <= j) := hv'
  have HR : Hid (RAt wr r ao N cap zs (pos + (C.enc 10 (l.length : Int)).length + ((l.take k).flatMap encY).length)) := hR'
  have HO : Hid (C.ROnly ws wr r) := hO'
  have HTL : Hid ((l.take k).length <= 1000000) := by show _ <= _; rw [List.length_take]; omega
  clear hS' hv' hR' hO' hkl
  by_cases hlt : k < l.length
  ·have klt : (k : Int) < (l.length : Int) := by omega
   obtain ⟨t', hdk⟩ := HD.out k hlt
   have HDK : Hid _ := hdk
   have hmem : l.getD k (0, 0) ∈ l := by simp [List.getD, hlt]
   have HZk : Hid _ := HZ.out _ hmem
   have HNX : Hid (l.take (k + 1) = l.take k ++ [l.getD k (0, 0)] /\ ((l.take (k + 1)).flatMap encY).length = ((l.take k).flatMap encY).length + (encY (l.getD k (0, 0))).length) := by
    refine ⟨?_, by rw [flat_succ encY l k (0, 0) hlt, List.length_append]⟩
    rw [List.take_succ_eq_append_getElem hlt]
    simp [List.getD, hlt]
   have hpp := encY_pos (l.getD k (0, 0))
   clear hdk hmem
   generalize l.getD k (0, 0) = s at *
   obtain ⟨q1, q2⟩ := s
   generalize hP : pos + (C.enc 10 (l.length : Int)).length + ((l.take k).flatMap encY).length = P at *
   have HPE : Hid (pos + (C.enc 10 (l.length : Int)).length + ((l.take k).flatMap encY).length = P) := hP
   generalize hQ : (encY (q1, q2)).length = Q at *
   have t1 : (((P + Q : Nat) : Int) == (P : Int)) = false := by simp only [beq_eq_false_iff_ne, ne_eq]; omega
   have t2 : (((P : Int) + (Q : Int)) == (P : Int)) = false := by simp only [beq_eq_false_iff_ne, ne_eq]; omega
   have HQ : Hid ((encY (q1, q2)).length = Q) := hQ
   have ARd : Hid (∀ w', C.ROnly wr w' r -> SY w' (.slice va k vc) (l.take k)) := fun w' ho => HS.out.kept fun j hj => ho.block j (HS.out.lt j hj) (fun e => by have := HV.out j hj; have := HLR.out; have := HWS.out; subst this; omega)
   clear hP hQ
   go_wp2_with (first
    | (go_at_call 129; guard_hyp HR : Hid (RAt wr r ao N cap zs P); refine (C.rat_any HR.out).mono ?_; rintro e w' ⟨rfl, rfl⟩; have HR0 : Hid (RAt wr r ao N cap zs P) := HR; clear HR)
    | (go_at_call 134; refine (dsym HR0.out q1 q2 t' HDK.out HZk.out.1 HZk.out.2.1 HZk.out.2.2).mono ?_; rintro e w2 ⟨rfl, h2', o2'⟩; have h2 : Hid (RAt w2 r ao N cap zs (P + Q)) := (by rw [<- HQ.out]; exact h2'); have o2 : Hid (C.ROnly ws w2 r) := HO.out.trans o2'; have S2 : Hid (SY w2 (.slice va k vc) (l.take k)) := ARd.out w2 o2'; clear h2' o2')
    | (go_at_call 129; refine (C.rat_any (h2.out.later (below_alloc w2 _))).mono ?_; rintro e w' ⟨rfl, rfl⟩)
    | (at_builtin; refine wpList_sy_append rfl _ _ rfl _ (l.take k) rfl ((S2.out.later (below_alloc w2 _)).later (below_alloc _ _)) _ 1 q1 q2 rfl (by simp) (by simp) (Nat.le_trans HTL.out (by omega)) ?_; intro a4 n4 c4 w4 ho4 hg4))
   go_roundw
   case rel =>
    have hsz : ws.heap.size <= w2.heap.size := o2.out.size
    have hb1 : Below w2.heap.size w2 ((w2.alloc (.cells #[.int .i64 q1, .int .i64 q2] 30)).alloc (.cells #[.int .i64 q1, .int .i64 q2] 30)) := (below_alloc w2 _).trans ((below_alloc _ _).mono (below_alloc w2 _).size)
    have hb2 : Below ws.heap.size ((w2.alloc (.cells #[.int .i64 q1, .int .i64 q2] 30)).alloc (.cells #[.int .i64 q1, .int .i64 q2] 30)) w4 := (Below.refl _ _).grown hg4.grown (Nat.le_trans hsz hb1.size) HV.out
    have hb3 : Below ws.heap.size w2 w4 := (hb1.mono hsz).trans hb2
    have hws := HWS.out
    refine ⟨k + 1, by omega, by go_num, ?_, ?_, ?_, ?_⟩
    ·rw [HNX.out.1]; exact ho4
    ·intro j hj
     rcases hg4.moved with e | ⟨z, e, hz⟩
     ·exact HV.out j (e ▸ hj)
     ·rw [hj] at e; have := Option.some.inj e; have := hb1.size; omega
    ·rw [HNX.out.2, <- Nat.add_assoc, HPE.out]
     exact rinv_kept2 h2.out (hb3.block r (by rw [hws]; exact HLR.out)) (fun g eg => hb3.block g (by rw [hws]; exact HG.out g eg))
    ·exact ⟨hb3.os.trans o2.out.os, hb3.tape.trans o2.out.tape, hb3.output.trans o2.out.output, Nat.le_trans o2.out.size hb3.size, fun j hj hr => (hb3.block j hj).trans (o2.out.block j hj hr)⟩
   case measure => simp [intOf]; omega
  ·obtain rfl : k = l.length := by omega
   have hS2 := HS.out
   have hR2 := HR.out
   rw [List.take_length] at hS2 hR2
   have HS2 : Hid (SY wr (.slice va l.length vc) l) := hS2
   have HR2 : Hid (RAt wr r ao N cap zs (pos + (encL encY l).length)) := by
    show RAt _ _ _ _ _ _ _
    rw [encL, List.length_append, <- Nat.add_assoc]
    exact hR2
   clear hS2 hR2 HS HR
   go_wp2
   go_ret
   have hws := HWS.out
   subst hws
   exact ⟨va, vc, rfl, HS2.out, HV.out, HR2.out, HO.out⟩
theorem own_set {w wA : World} (b o : Nat) (u : Value) (hb : w.heap.size <= b) : Below w.heap.size wA (wA.setCell ⟨b, o, none⟩ u) :=
 (Below.refl _ _).setCell (p := ⟨b, o, none⟩) hb u
theorem two_alloc (w : World) (x y : Obj) : Below w.heap.size w ((w.alloc x).alloc y) /\ ((w.alloc x).alloc y).heap[w.heap.size]? = some x /\ ((w.alloc x).alloc y).heap[w.heap.size + 1]? = some y := by
 have e1 : (w.alloc x).heap.size = w.heap.size + 1 := by simp
 refine ⟨(below_alloc w x).trans ((below_alloc _ y).mono (by omega)), ?_, ?_⟩
 ·rw [<- heap_alloc_new w x]
  exact (below_alloc (w.alloc x) y).block _ (by omega)
 ·rw [<- heap_alloc_new (w.alloc x) y, e1]
theorem dlev {wr : World} {r : Nat} {ao : Option Addr} {N cap : Nat} {zs : List Int} {pos : Nat} (h : RAt wr r ao N cap zs pos) (hg : ∀ g, ao = some ⟨g, 0, none⟩ -> g < wr.heap.size) (a : Int) (l : List Int) (t : List Int) (hd : zs.drop pos = C.enc 10 a ++ (encL encI l ++ t)) (ha : 0 <= a /\ a <= 2147483647) (hz : ∀ s ∈ l, 0 <= s /\ s <= 2147483647) (hl : l.length <= 1000000) :
  Calls Tryz.prog 102 #[.pointer (some ⟨r, 0, none⟩)] wr fun e w' => ∃ ta tc, e = .returned (.agg #[.int .i64 a, .slice ta l.length tc]) /\ IL w' (.slice ta l.length tc) l /\ (∀ k, (Value.slice ta l.length tc).ownBlock = some k -> wr.heap.size <= k) /\ RAt w' r ao N cap zs (pos + (C.enc 10 a).length + (encL encI l).length) /\ C.ROnly wr w' r := by
 obtain ⟨hb0, hx0, hx1⟩ := two_alloc wr (.cells #[.int .i64 0, .slice none 0 0] 92) (.cells #[.int .i64 0, .slice none 0 0] 92)
 have hlt := h.lt
 have HO : Hid (C.ROnly wr ((wr.alloc (.cells #[.int .i64 0, .slice none 0 0] 92)).alloc (.cells #[.int .i64 0, .slice none 0 0] 92)) r) := C.ROnly.ofBelow hb0
 have HC : Hid (RAt ((wr.alloc (.cells #[.int .i64 0, .slice none 0 0] 92)).alloc (.cells #[.int .i64 0, .slice none 0 0] 92)) r ao N cap zs pos /\ zs.drop pos = C.enc 10 a ++ (encL encI l ++ t)) := ⟨h.later hb0, hd⟩
 have HD : Hid (zs.drop (pos + (C.enc 10 a).length) = encL encI l ++ t) := by show _ = _; rw [<- List.drop_drop, hd, List.drop_left]
 have HH : Hid (RAt wr r ao N cap zs pos) := h
 have HG : Hid (∀ g, ao = some ⟨g, 0, none⟩ -> g < wr.heap.size) := hg
 have HZ : Hid ((∀ s ∈ l, 0 <= s /\ s <= 2147483647) /\ l.length <= 1000000) := ⟨hz, hl⟩
 have AX : Hid (∀ w1 : World, C.ROnly ((wr.alloc (.cells #[.int .i64 0, .slice none 0 0] 92)).alloc (.cells #[.int .i64 0, .slice none 0 0] 92)) w1 r -> w1.heap[wr.heap.size]? = some (.cells #[.int .i64 0, .slice none 0 0] 92 (0, 0)) /\ w1.heap[wr.heap.size + 1]? = some (.cells #[.int .i64 0, .slice none 0 0] 92 (0, 0))) := fun w1 ho => ⟨(ho.block _ (lt_of_block hx0) (by omega)).trans hx0, (ho.block _ (lt_of_block hx1) (by omega)).trans hx1⟩
 have AY : Hid (∀ w1 w2 : World, (w1.heap[wr.heap.size]? = some (.cells #[.int .i64 0, .slice none 0 0] 92 (0, 0)) /\ w1.heap[wr.heap.size + 1]? = some (.cells #[.int .i64 0, .slice none 0 0] 92 (0, 0))) -> C.ROnly (w1.setCell ⟨wr.heap.size + 1, 0, none⟩ (.int .i64 a)) w2 r -> w2.heap[wr.heap.size]? = some (.cells #[.int .i64 0, .slice none 0 0] 92 (0, 0)) /\ w2.heap[wr.heap.size + 1]? = some (.cells #[.int .i64 a, .slice none 0 0] 92 (0, 0))) := fun w1 w2 e1 ho =>
  have ek : (w1.setCell ⟨wr.heap.size + 1, 0, none⟩ (.int .i64 a)).heap[wr.heap.size]? = some (.cells #[.int .i64 0, .slice none 0 0] 92 (0, 0)) := (Below.heap_setCell _ _ _ _ (show wr.heap.size ≠ wr.heap.size + 1 by omega)).trans e1.1
  ⟨(ho.block _ (lt_of_block ek) (by omega)).trans ek, (ho.block _ (lt_of_block (heap_set e1.2 _ _)) (by omega)).trans (heap_set e1.2 0 (.int .i64 a))⟩
 clear h hd hg hz hl hb0 hx0 hx1
 go_enter Tryz.func102, Tryz.ntmps102
 go_wp2_with (first
  | (go_at_call 98; refine (dint HC.out.1 a _ HC.out.2 ha.1 ha.2).mono ?_; rintro e w1 ⟨rfl, h1', o1'⟩; have e1 := AX.out w1 o1'; have z0 : w1.cell? ⟨wr.heap.size + 1, 0, none⟩ = some (.int .i64 0) := (by rw [cellq_any e1.2]; rfl); have y0 : w1.frozen? ⟨wr.heap.size + 1, 0, none⟩ = false := (by simp [World.frozen?, e1.2]); have h1 : Hid (RAt (w1.setCell ⟨wr.heap.size + 1, 0, none⟩ (.int .i64 a)) r ao N cap zs (pos + (C.enc 10 a).length)) := HH.out.patched h1' (own_set _ _ _ (by omega)); have o1 : Hid (C.ROnly wr (w1.setCell ⟨wr.heap.size + 1, 0, none⟩ (.int .i64 a)) r) := (HO.out.trans o1').patched (own_set _ _ _ (by omega)); have hz1 : wr.heap.size + 1 < w1.heap.size := lt_of_block e1.2; have E1 : Hid _ := e1; clear h1' o1' e1)
  | (go_at_call 136; refine (rl_int h1.out (fun g eg => Nat.lt_of_lt_of_le (HG.out g eg) o1.out.size) l t HD.out HZ.out.1 HZ.out.2).mono ?_; rintro e w2 ⟨ta, tc, rfl, s2', v2', h2', o2'⟩; have e2 := AY.out w1 w2 E1.out o2'; clear z0 y0; have z0 : w2.cell? ⟨wr.heap.size + 1, 0, none⟩ = some (.int .i64 a) := (by rw [cellq_any e2.2]; rfl); have z1 : w2.cell? ⟨wr.heap.size + 1, 1, none⟩ = some (.slice none 0 0) := (by rw [cellq_any e2.2]; rfl); have y1 : w2.frozen? ⟨wr.heap.size + 1, 1, none⟩ = false := (by simp [World.frozen?, e2.2]); have x0 : w2.cell? ⟨wr.heap.size, 0, none⟩ = some (.int .i64 0) := (by rw [cellq_any e2.1]; rfl); have x1 : w2.cell? ⟨wr.heap.size, 1, none⟩ = some (.slice none 0 0) := (by rw [cellq_any e2.1]; rfl); have y2 : w2.frozen? ⟨wr.heap.size, 0, none⟩ = false := (by simp [World.frozen?, e2.1]); have y3 : w2.frozen? ⟨wr.heap.size, 1, none⟩ = false := (by simp [World.frozen?, e2.1]); have H2 : Hid _ := h2'; have O2 : Hid _ := o1.out.trans o2'; have S2 : Hid _ := s2'; have V2 : Hid _ := v2'; have SZ : Hid (wr.heap.size + 1 < (w1.setCell ⟨wr.heap.size + 1, 0, none⟩ (.int .i64 a)).heap.size) := lt_of_block (heap_set E1.out.2 _ _); clear hz1; have hz1 : wr.heap.size + 1 < w2.heap.size := lt_of_block e2.2; have hz2 : wr.heap.size < w2.heap.size := lt_of_block e2.1; clear h2' o2' s2' v2'))
 have hb9 : Below wr.heap.size w2 (((w2.setCell ⟨wr.heap.size + 1, 1, none⟩ (.slice ta l.length tc)).setCell ⟨wr.heap.size, 0, none⟩ (.int .i64 a)).setCell ⟨wr.heap.size, 1, none⟩ (.slice ta l.length tc)) :=
  ((own_set _ _ _ (by omega)).trans (own_set _ _ _ (by omega))).trans (own_set _ _ _ (by omega))
 refine bodyPost_ret (v := .agg #[.int .i64 a, .slice ta l.length tc]) (by simp [results, Tryz.results102, go_sem, x0, x1]) rfl ?_
 have hk : ∀ k, (Value.slice ta l.length tc).ownBlock = some k -> wr.heap.size + 1 < k := fun k hk => Nat.lt_of_lt_of_le SZ.out (V2.out k hk)
 refine ⟨ta, tc, rfl, ?_, fun k hk' => (by have := hk k hk'; omega), HH.out.patched H2.out hb9, O2.out.patched hb9⟩
 exact IL.kept S2.out fun k hk' => by
  have := hk k hk'
  rw [Below.heap_setCell _ _ _ _ (show k ≠ wr.heap.size by omega), Below.heap_setCell _ _ _ _ (show k ≠ wr.heap.size by omega), Below.heap_setCell _ _ _ _ (show k ≠ wr.heap.size + 1 by omega)]
theorem dsigned {wr : World} {r : Nat} {ao : Option Addr} {N cap : Nat} {zs : List Int} {pos : Nat} (h : RAt wr r ao N cap zs pos) (n : Int) (t : List Int) (hd : zs.drop pos = C.enc 10 (C.foldS n) ++ t) (h0 : -1 <= n) (h1 : n <= 1048576) :
  Calls Tryz.prog 135 #[.pointer (some ⟨r, 0, none⟩), .int .i64 2147483647] wr (DE wr r ao N cap zs (pos + (C.enc 10 (C.foldS n)).length) (.int .i64 n)) := by
 have f0 : 0 <= C.foldS n /\ C.foldS n <= 2097152 := by unfold C.foldS; split <;> omega
 have f1 : C.foldS 2147483647 = 4294967294 := by unfold C.foldS; simp
 have f2 : C.unfoldS (C.foldS n) = n := by unfold C.unfoldS C.foldS; split <;> split <;> omega
 refine (C.rsigned_any 2147483647 h (by omega) (by omega) (C.foldS n) (pos + (C.enc 10 (C.foldS n)).length) 0 (C.takeS_enc zs pos _ (C.foldS n) t hd f0.1 (by omega) (by rw [f1]; omega)) f0.1 (by omega)).mono ?_
 rintro e w' ⟨rfl, h2, o2⟩
 exact ⟨by rw [f2], h2, o2⟩
theorem two_keep {w1 w2 wr : World} {r : Nat} {x y : Array Value} {ty : TypeId} (hlt : r < wr.heap.size) (o : Nat) (u : Value) (e1 : w1.heap[wr.heap.size]? = some (.cells x ty (0, 0)) /\ w1.heap[wr.heap.size + 1]? = some (.cells y ty (0, 0))) (ho : C.ROnly (w1.setCell ⟨wr.heap.size + 1, o, none⟩ u) w2 r) :
  w2.heap[wr.heap.size]? = some (.cells x ty (0, 0)) /\ w2.heap[wr.heap.size + 1]? = some (.cells (y.setIfInBounds o u) ty (0, 0)) :=
 have ek : (w1.setCell ⟨wr.heap.size + 1, o, none⟩ u).heap[wr.heap.size]? = some (.cells x ty (0, 0)) := (Below.heap_setCell _ _ _ _ (show wr.heap.size ≠ wr.heap.size + 1 by omega)).trans e1.1
 ⟨(ho.block _ (lt_of_block ek) (by omega)).trans ek, (ho.block _ (lt_of_block (heap_set e1.2 _ _)) (by omega)).trans (heap_set e1.2 o u)⟩
theorem dprod {wr : World} {r : Nat} {ao : Option Addr} {N cap : Nat} {zs : List Int} {pos : Nat} (h : RAt wr r ao N cap zs pos) (hg : ∀ g, ao = some ⟨g, 0, none⟩ -> g < wr.heap.size) (a : Int) (l : List (Int × Int)) (c : Int) (t : List Int) (hd : zs.drop pos = C.enc 10 a ++ (encL encY l ++ (C.enc 10 (C.foldS c) ++ t))) (ha : 0 <= a /\ a <= 2147483647) (hc : -1 <= c /\ c <= 1048576) (hz : ∀ s ∈ l, (s.1 = 1 ∨ s.1 = 2) /\ 0 <= s.2 /\ s.2 <= 1048576) (hl : l.length <= 1000000) :
  Calls Tryz.prog 100 #[.pointer (some ⟨r, 0, none⟩)] wr fun e w' => ∃ ra rc, e = .returned (.agg #[.int .i64 a, .slice ra l.length rc, .int .i64 c]) /\ SY w' (.slice ra l.length rc) l /\ (∀ k, (Value.slice ra l.length rc).ownBlock = some k -> wr.heap.size <= k) /\ RAt w' r ao N cap zs (pos + (C.enc 10 a).length + (encL encY l).length + (C.enc 10 (C.foldS c)).length) /\ C.ROnly wr w' r := by
 obtain ⟨hb0, hx0, hx1⟩ := two_alloc wr (.cells #[.int .i64 0, .slice none 0 0, .int .i64 0] 75) (.cells #[.int .i64 0, .slice none 0 0, .int .i64 0] 75)
 have hlt := h.lt
 have HO : Hid (C.ROnly wr ((wr.alloc (.cells #[.int .i64 0, .slice none 0 0, .int .i64 0] 75)).alloc (.cells #[.int .i64 0, .slice none 0 0, .int .i64 0] 75)) r) := C.ROnly.ofBelow hb0
 have HC : Hid (RAt ((wr.alloc (.cells #[.int .i64 0, .slice none 0 0, .int .i64 0] 75)).alloc (.cells #[.int .i64 0, .slice none 0 0, .int .i64 0] 75)) r ao N cap zs pos /\ zs.drop pos = C.enc 10 a ++ (encL encY l ++ (C.enc 10 (C.foldS c) ++ t))) := ⟨h.later hb0, hd⟩
 have hd1 : zs.drop (pos + (C.enc 10 a).length) = encL encY l ++ (C.enc 10 (C.foldS c) ++ t) := by rw [<- List.drop_drop, hd, List.drop_left]
 have HD : Hid (zs.drop (pos + (C.enc 10 a).length) = encL encY l ++ (C.enc 10 (C.foldS c) ++ t)) := hd1
 have HD2 : Hid (zs.drop (pos + (C.enc 10 a).length + (encL encY l).length) = C.enc 10 (C.foldS c) ++ t) := by show _ = _; rw [<- List.drop_drop, hd1, List.drop_left]
 have HH : Hid (RAt wr r ao N cap zs pos) := h
 have HG : Hid (∀ g, ao = some ⟨g, 0, none⟩ -> g < wr.heap.size) := hg
 have HZ : Hid ((∀ s ∈ l, (s.1 = 1 ∨ s.1 = 2) /\ 0 <= s.2 /\ s.2 <= 1048576) /\ l.length <= 1000000) := ⟨hz, hl⟩
 have AX : Hid (∀ w1 : World, C.ROnly ((wr.alloc (.cells #[.int .i64 0, .slice none 0 0, .int .i64 0] 75)).alloc (.cells #[.int .i64 0, .slice none 0 0, .int .i64 0] 75)) w1 r -> w1.heap[wr.heap.size]? = some (.cells #[.int .i64 0, .slice none 0 0, .int .i64 0] 75 (0, 0)) /\ w1.heap[wr.heap.size + 1]? = some (.cells #[.int .i64 0, .slice none 0 0, .int .i64 0] 75 (0, 0))) := fun w1 ho => ⟨(ho.block _ (lt_of_block hx0) (by omega)).trans hx0, (ho.block _ (lt_of_block hx1) (by omega)).trans hx1⟩
 clear h hd hd1 hg hz hl hb0 hx0 hx1
 go_enter Tryz.func100, Tryz.ntmps100
 go_wp2_with (first
  | (go_at_call 98; refine (dint HC.out.1 a _ HC.out.2 ha.1 ha.2).mono ?_; rintro e w1 ⟨rfl, h1', o1'⟩; have e1 := AX.out w1 o1'; have z0 : w1.cell? ⟨wr.heap.size + 1, 0, none⟩ = some (.int .i64 0) := (by rw [cellq_any e1.2]; rfl); have y0 : w1.frozen? ⟨wr.heap.size + 1, 0, none⟩ = false := (by simp [World.frozen?, e1.2]); have h1 : Hid (RAt (w1.setCell ⟨wr.heap.size + 1, 0, none⟩ (.int .i64 a)) r ao N cap zs (pos + (C.enc 10 a).length)) := HH.out.patched h1' (own_set _ _ _ (by omega)); have o1 : Hid (C.ROnly wr (w1.setCell ⟨wr.heap.size + 1, 0, none⟩ (.int .i64 a)) r) := (HO.out.trans o1').patched (own_set _ _ _ (by omega)); have hz1 : wr.heap.size + 1 < w1.heap.size := lt_of_block e1.2; have E1 : Hid _ := e1; clear h1' o1' e1)
  | (go_at_call 133; refine (rl_sym h1.out (fun g eg => Nat.lt_of_lt_of_le (HG.out g eg) o1.out.size) l _ HD.out HZ.out.1 HZ.out.2).mono ?_; rintro e w2 ⟨ra, rc, rfl, s2', v2', h2', o2'⟩; have e2 := two_keep hlt 0 (.int .i64 a) E1.out o2'; clear z0 y0; have z1 : w2.cell? ⟨wr.heap.size + 1, 1, none⟩ = some (.slice none 0 0) := (by rw [cellq_any e2.2]; rfl); have y1 : w2.frozen? ⟨wr.heap.size + 1, 1, none⟩ = false := (by simp [World.frozen?, e2.2]); have SZ : Hid (wr.heap.size + 1 < (w1.setCell ⟨wr.heap.size + 1, 0, none⟩ (.int .i64 a)).heap.size) := lt_of_block (heap_set E1.out.2 _ _); have V2 : Hid (∀ k, (Value.slice ra l.length rc).ownBlock = some k -> wr.heap.size + 1 < k) := (fun k hk => Nat.lt_of_lt_of_le SZ.out (v2' k hk)); have h2 : Hid (RAt (w2.setCell ⟨wr.heap.size + 1, 1, none⟩ (.slice ra l.length rc)) r ao N cap zs (pos + (C.enc 10 a).length + (encL encY l).length)) := HH.out.patched h2' (own_set _ _ _ (by omega)); have o2 : Hid (C.ROnly wr (w2.setCell ⟨wr.heap.size + 1, 1, none⟩ (.slice ra l.length rc)) r) := (o1.out.trans o2').patched (own_set _ _ _ (by omega)); have s2 : Hid (SY (w2.setCell ⟨wr.heap.size + 1, 1, none⟩ (.slice ra l.length rc)) (.slice ra l.length rc) l) := (SY.kept s2' fun k hk => Below.heap_setCell _ _ _ _ (show k ≠ wr.heap.size + 1 by have := V2.out k hk; omega)); clear hz1; have hz1 : wr.heap.size + 1 < w2.heap.size := lt_of_block e2.2; have E2 : Hid _ := e2; clear h2' o2' s2' v2' e2)
  | (go_at_call 135; refine (dsigned h2.out c t HD2.out hc.1 hc.2).mono ?_; rintro e w3 ⟨rfl, h3', o3'⟩; have e3 := two_keep hlt 1 (.slice ra l.length rc) E2.out o3'; clear z1 y1; have z0 : w3.cell? ⟨wr.heap.size + 1, 0, none⟩ = some (.int .i64 a) := (by rw [cellq_any e3.2]; rfl); have z1 : w3.cell? ⟨wr.heap.size + 1, 1, none⟩ = some (.slice ra l.length rc) := (by rw [cellq_any e3.2]; rfl); have z2 : w3.cell? ⟨wr.heap.size + 1, 2, none⟩ = some (.int .i64 0) := (by rw [cellq_any e3.2]; rfl); have y2 : w3.frozen? ⟨wr.heap.size + 1, 2, none⟩ = false := (by simp [World.frozen?, e3.2]); have x0 : w3.cell? ⟨wr.heap.size, 0, none⟩ = some (.int .i64 0) := (by rw [cellq_any e3.1]; rfl); have x1 : w3.cell? ⟨wr.heap.size, 1, none⟩ = some (.slice none 0 0) := (by rw [cellq_any e3.1]; rfl); have x2 : w3.cell? ⟨wr.heap.size, 2, none⟩ = some (.int .i64 0) := (by rw [cellq_any e3.1]; rfl); have y3 : w3.frozen? ⟨wr.heap.size, 0, none⟩ = false := (by simp [World.frozen?, e3.1]); have y4 : w3.frozen? ⟨wr.heap.size, 1, none⟩ = false := (by simp [World.frozen?, e3.1]); have y5 : w3.frozen? ⟨wr.heap.size, 2, none⟩ = false := (by simp [World.frozen?, e3.1]); have h3 : Hid _ := h3'; have o3 : Hid (C.ROnly wr w3 r) := o2.out.trans o3'; have s3 : Hid (SY w3 (.slice ra l.length rc) l) := (SY.kept s2.out fun k hk => o3'.block k (s2.out.lt k hk) (by have := V2.out k hk; omega)); clear hz1; have hz1 : wr.heap.size + 1 < w3.heap.size := lt_of_block e3.2; have hz2 : wr.heap.size < w3.heap.size := lt_of_block e3.1; clear h3' o3' e3))
 have hb9 : Below wr.heap.size w3 ((((w3.setCell ⟨wr.heap.size + 1, 2, none⟩ (.int .i64 c)).setCell ⟨wr.heap.size, 0, none⟩ (.int .i64 a)).setCell ⟨wr.heap.size, 1, none⟩ (.slice ra l.length rc)).setCell ⟨wr.heap.size, 2, none⟩ (.int .i64 c)) :=
  (((own_set _ _ _ (by omega)).trans (own_set _ _ _ (by omega))).trans (own_set _ _ _ (by omega))).trans (own_set _ _ _ (by omega))
 refine bodyPost_ret (v := .agg #[.int .i64 a, .slice ra l.length rc, .int .i64 c]) (by simp [results, Tryz.results100, go_sem, x0, x1, x2]) rfl ?_
 refine ⟨ra, rc, rfl, ?_, fun k hk' => (by have := V2.out k hk'; omega), HH.out.patched h3.out hb9, o3.out.patched hb9⟩
 exact SY.kept s3.out fun k hk' => by
  have := V2.out k hk'
  rw [Below.heap_setCell _ _ _ _ (show k ≠ wr.heap.size by omega), Below.heap_setCell _ _ _ _ (show k ≠ wr.heap.size by omega), Below.heap_setCell _ _ _ _ (show k ≠ wr.heap.size by omega), Below.heap_setCell _ _ _ _ (show k ≠ wr.heap.size + 1 by omega)]
def levCells (l : List LV) : List Value := l.flatMap fun q => [.int .i64 q.assoc, .slice q.ta q.terms.length q.tc]
theorem levCells_len (l : List LV) : (levCells l).length = l.length * 2 := by
 induction l with
 | nil => rfl
 | cons a r ih => simp [levCells] at ih ⊢; omega
def LY (w : World) (v : Value) (l : List LV) : Prop := w.ownsRow 0 92 2 v l.length (levCells l)
theorem infoLev : (Tryz.prog.info? 92).map (fun i => (i.zero, i.size, i.bytes)) = some (some (.agg #[.int .i64 0, .slice none 0 0]), 2, 32) := by kernel_rfl
theorem infoLev_parts : ∃ i, Tryz.prog.info? 92 = some i /\ i.zero = some (.agg #[.int .i64 0, .slice none 0 0]) /\ i.size = 2 /\ i.bytes = 32 := by
 have h := infoLev
 cases e : Tryz.prog.info? 92 with
 | none => rw [e] at h; cases h
 | some i => rw [e] at h; simp at h; exact ⟨i, rfl, h.1, h.2.1, h.2.2⟩
theorem LY.nil (w : World) : LY w (.slice none 0 0) [] := World.ownsRow_nil w 0 92 2
theorem LY.len {w : World} {v : Value} {l : List LV} (h : LY w v l) : ∃ a c, v = .slice a l.length c := by
 rcases h.2 with ⟨e, h0⟩ | ⟨g, cap, cur, e, _⟩
 ·rw [h0]; exact ⟨_, _, e⟩
 ·exact ⟨_, _, e⟩
theorem LY.lt {w : World} {v : Value} {l : List LV} (h : LY w v l) : ∀ k, v.ownBlock = some k -> k < w.heap.size := fun k hk => (World.ownsRow.lt h k hk).2
theorem LY.kept {w w' : World} {v : Value} {l : List LV} (h : LY w v l) (hb : ∀ k, v.ownBlock = some k -> w'.heap[k]? = w.heap[k]?) : LY w' v l := by
 refine ⟨h.1, ?_⟩
 rcases h.2 with q | ⟨g, cap, cur, rfl, h1, h2, h3⟩
 ·exact .inl q
 ·exact .inr ⟨g, cap, cur, rfl, h1, (hb g rfl).trans h2, h3⟩
theorem LY.later {w w' : World} {v : Value} {l : List LV} (h : LY w v l) (hb : Below w.heap.size w w') : LY w' v l := h.kept fun k hk => hb.block k (h.lt k hk)
theorem wpList_LY_append_w {ops : Array Oper} {rest : List Oper} {o : Oper} {a : Act} {Q : Exit -> Act -> World -> Prop} {w : World} (hgd : o.guard = none) (s x : Operand)
  (ho : o.op = .call { callee := .builtin .append, args := #[s, x], argTypes := #[24, 24] })
  (v : Value) (l : List LV) (hs : a.eval s = v) (h : LY w v l) (b c : Nat) (q : LV) (hx : a.eval x = .slice (some ⟨b, 0, none⟩) 1 c) (hy : ∀ j u, [.int .i64 q.assoc, .slice q.ta q.terms.length q.tc][j]? = some u -> w.cell? ⟨b, j, none⟩ = some u) (hlen : l.length <= 100000000)
  (hK : ∀ a' n' c' w', LY w' (.slice a' n' c') (l ++ [q]) -> Grew w w' v (.slice a' n' c') -> wpList Tryz.prog ops Q rest (a.put o.dst (.slice a' n' c')) w') : wpList Tryz.prog ops Q (o :: rest) a w := by
 obtain ⟨i0, hi, hz0, hz1, hz2⟩ := infoLev_parts
 refine wpList_append_own_at w hgd s x 24 ho 0 92 i0 (.agg #[.int .i64 0, .slice none 0 0]) 2 32 Tryz.underlying24 hi hz0 hz1 hz2 rfl (by decide) v l.length (levCells l) hs h ⟨b, 0, none⟩ 1 c [.int .i64 q.assoc, .slice q.ta q.terms.length q.tc] hx (by simp) ?_ ?_ (by unfold maxLen; omega) (by omega) (Nat.zero_le _) ?_
 ·intro j u hu
  rw [add_none, Nat.zero_add]
  exact hy j u hu
 ·intro u hu; simp at hu; rcases hu with rfl | rfl <;> rfl
 ·intro v' w' h2 h3 _ h5
  have h6 : LY w' v' (l ++ [q]) := by
   unfold LY
   have e : levCells (l ++ [q]) = levCells l ++ [.int .i64 q.assoc, .slice q.ta q.terms.length q.tc] := by simp [levCells]
   rw [e]
   simpa using h2
  obtain ⟨a', c', rfl⟩ := LY.len h6
  exact hK _ _ _ w' h6 ⟨h3, h5.imp id fun e => ⟨_, e, Nat.le_refl _⟩⟩
theorem wpList_LY_append {ops : Array Oper} {rest : List Oper} {o : Oper} {a : Act} {Q : Exit -> Act -> World -> Prop} {w : World} (hgd : o.guard = none) (s x : Operand)
  (ho : o.op = .call { callee := .builtin .append, args := #[s, x], argTypes := #[24, 24] })
  (v : Value) (l : List LV) (hs : a.eval s = v) (h : LY w v l) (b c : Nat) (q : LV) (hx : a.eval x = .slice (some ⟨b, 0, none⟩) 1 c) (hy : ∀ j u, [.int .i64 q.assoc, .slice q.ta q.terms.length q.tc][j]? = some u -> w.cell? ⟨b, j, none⟩ = some u) (hlen : l.length <= 2000000)
  (hK : ∀ a' n' c' w', LY w' (.slice a' n' c') (l ++ [q]) -> Grew w w' v (.slice a' n' c') -> wpList Tryz.prog ops Q rest (a.put o.dst (.slice a' n' c')) w') : wpList Tryz.prog ops Q (o :: rest) a w := wpList_LY_append_w hgd s x ho v l hs h b c q hx hy (Nat.le_trans hlen (by omega)) hK
def proCells (l : List PV) : List Value := l.flatMap fun q => [.int .i64 q.left, .slice q.ra q.right.length q.rc, .int .i64 q.prec]
theorem proCells_len (l : List PV) : (proCells l).length = l.length * 3 := by
 induction l with
 | nil => rfl
 | cons a r ih => simp [proCells] at ih ⊢; omega
def PY (w : World) (v : Value) (l : List PV) : Prop := w.ownsRow 0 75 3 v l.length (proCells l)
theorem infoPro : (Tryz.prog.info? 75).map (fun i => (i.zero, i.size, i.bytes)) = some (some (.agg #[.int .i64 0, .slice none 0 0, .int .i64 0]), 3, 40) := by kernel_rfl
theorem infoPro_parts : ∃ i, Tryz.prog.info? 75 = some i /\ i.zero = some (.agg #[.int .i64 0, .slice none 0 0, .int .i64 0]) /\ i.size = 3 /\ i.bytes = 40 := by
 have h := infoPro
 cases e : Tryz.prog.info? 75 with
 | none => rw [e] at h; cases h
 | some i => rw [e] at h; simp at h; exact ⟨i, rfl, h.1, h.2.1, h.2.2⟩
theorem PY.nil (w : World) : PY w (.slice none 0 0) [] := World.ownsRow_nil w 0 75 3
theorem PY.len {w : World} {v : Value} {l : List PV} (h : PY w v l) : ∃ a c, v = .slice a l.length c := by
 rcases h.2 with ⟨e, h0⟩ | ⟨g, cap, cur, e, _⟩
 ·rw [h0]; exact ⟨_, _, e⟩
 ·exact ⟨_, _, e⟩
theorem PY.lt {w : World} {v : Value} {l : List PV} (h : PY w v l) : ∀ k, v.ownBlock = some k -> k < w.heap.size := fun k hk => (World.ownsRow.lt h k hk).2
theorem PY.kept {w w' : World} {v : Value} {l : List PV} (h : PY w v l) (hb : ∀ k, v.ownBlock = some k -> w'.heap[k]? = w.heap[k]?) : PY w' v l := by
 refine ⟨h.1, ?_⟩
 rcases h.2 with q | ⟨g, cap, cur, rfl, h1, h2, h3⟩
 ·exact .inl q
 ·exact .inr ⟨g, cap, cur, rfl, h1, (hb g rfl).trans h2, h3⟩
theorem PY.later {w w' : World} {v : Value} {l : List PV} (h : PY w v l) (hb : Below w.heap.size w w') : PY w' v l := h.kept fun k hk => hb.block k (h.lt k hk)
theorem wpList_PY_append_w {ops : Array Oper} {rest : List Oper} {o : Oper} {a : Act} {Q : Exit -> Act -> World -> Prop} {w : World} (hgd : o.guard = none) (s x : Operand)
  (ho : o.op = .call { callee := .builtin .append, args := #[s, x], argTypes := #[23, 23] })
  (v : Value) (l : List PV) (hs : a.eval s = v) (h : PY w v l) (b c : Nat) (q : PV) (hx : a.eval x = .slice (some ⟨b, 0, none⟩) 1 c) (hy : ∀ j u, [.int .i64 q.left, .slice q.ra q.right.length q.rc, .int .i64 q.prec][j]? = some u -> w.cell? ⟨b, j, none⟩ = some u) (hlen : l.length <= 100000000)
  (hK : ∀ a' n' c' w', PY w' (.slice a' n' c') (l ++ [q]) -> Grew w w' v (.slice a' n' c') -> wpList Tryz.prog ops Q rest (a.put o.dst (.slice a' n' c')) w') : wpList Tryz.prog ops Q (o :: rest) a w := by
 obtain ⟨i0, hi, hz0, hz1, hz2⟩ := infoPro_parts
 refine wpList_append_own_at w hgd s x 23 ho 0 75 i0 (.agg #[.int .i64 0, .slice none 0 0, .int .i64 0]) 3 40 Tryz.underlying23 hi hz0 hz1 hz2 rfl (by decide) v l.length (proCells l) hs h ⟨b, 0, none⟩ 1 c [.int .i64 q.left, .slice q.ra q.right.length q.rc, .int .i64 q.prec] hx (by simp) ?_ ?_ (by unfold maxLen; omega) (by omega) (Nat.zero_le _) ?_
 ·intro j u hu
  rw [add_none, Nat.zero_add]
  exact hy j u hu
 ·intro u hu; simp at hu; rcases hu with rfl | rfl | rfl <;> rfl
 ·intro v' w' h2 h3 _ h5
  have h6 : PY w' v' (l ++ [q]) := by
   unfold PY
   have e : proCells (l ++ [q]) = proCells l ++ [.int .i64 q.left, .slice q.ra q.right.length q.rc, .int .i64 q.prec] := by simp [proCells]
   rw [e]
   simpa using h2
  obtain ⟨a', c', rfl⟩ := PY.len h6
  exact hK _ _ _ w' h6 ⟨h3, h5.imp id fun e => ⟨_, e, Nat.le_refl _⟩⟩
theorem wpList_PY_append {ops : Array Oper} {rest : List Oper} {o : Oper} {a : Act} {Q : Exit -> Act -> World -> Prop} {w : World} (hgd : o.guard = none) (s x : Operand)
  (ho : o.op = .call { callee := .builtin .append, args := #[s, x], argTypes := #[23, 23] })
  (v : Value) (l : List PV) (hs : a.eval s = v) (h : PY w v l) (b c : Nat) (q : PV) (hx : a.eval x = .slice (some ⟨b, 0, none⟩) 1 c) (hy : ∀ j u, [.int .i64 q.left, .slice q.ra q.right.length q.rc, .int .i64 q.prec][j]? = some u -> w.cell? ⟨b, j, none⟩ = some u) (hlen : l.length <= 2000000)
  (hK : ∀ a' n' c' w', PY w' (.slice a' n' c') (l ++ [q]) -> Grew w w' v (.slice a' n' c') -> wpList Tryz.prog ops Q rest (a.put o.dst (.slice a' n' c')) w') : wpList Tryz.prog ops Q (o :: rest) a w := wpList_PY_append_w hgd s x ho v l hs h b c q hx hy (Nat.le_trans hlen (by omega)) hK
end Go.Proofs.YthgnhdnmcjpdmaaGreatDoor
