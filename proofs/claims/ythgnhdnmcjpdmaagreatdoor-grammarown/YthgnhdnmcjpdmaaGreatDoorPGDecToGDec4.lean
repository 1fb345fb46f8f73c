import Derived.Test.YthgnhdnmcjpdmaaGreatDoorPGEncToGEnc2
import Derived.Test.YthgnhdnmcjpdmaaGreatDoorPCountToBack0
namespace Go.Proofs.YthgnhdnmcjpdmaaGreatDoor
set_option linter.unusedVariables false
set_option maxRecDepth 100000
set_option maxHeartbeats 16000000
open Go.RowKit
abbrev RAt (wr : World) (r : Nat) (ao : Option Addr) (N cap : Nat) (zs : List Int) (pos : Nat) : Prop := C.RInv wr r ao N cap zs pos 0
abbrev DE (wr : World) (r : Nat) (ao : Option Addr) (N cap : Nat) (zs : List Int) (pos : Nat) (val : Value) (e : Ending) (w' : World) : Prop := e = .returned val /\ RAt w' r ao N cap zs pos /\ C.ROnly wr w' r
section
variable {wr : World} {r : Nat} {ao : Option Addr} {N cap : Nat} {zs : List Int} {pos : Nat}
theorem dint (h : RAt wr r ao N cap zs pos) (n : Int) (t : List Int) (hd : zs.drop pos = C.enc 10 n ++ t) (h0 : 0 <= n) (h1 : n <= 2147483647) :
  Calls Tryz.prog 98 #[.pointer (some ⟨r, 0, none⟩), .int .i64 2147483647] wr (DE wr r ao N cap zs (pos + (C.enc 10 n).length) (.int .i64 n)) :=
 C.rint_any 2147483647 h (by omega) (by omega) n (pos + (C.enc 10 n).length) 0 (C.takeS_enc zs pos 2147483647 n t hd h0 (by omega) h1) h0 (by omega)
theorem dtext (h : RAt wr r ao N cap zs pos) (s : ByteArray) (t : List Int) (hd : zs.drop pos = encS s ++ t) (h1 : s.size <= 65536) :
  Calls Tryz.prog 130 #[.pointer (some ⟨r, 0, none⟩), .int .i64 65536] wr (DE wr r ao N cap zs (pos + (encS s).length) (.string s)) := by
 have hd' : zs.drop pos = C.enc 10 (s.size : Int) ++ (C.strBytes s ++ t) := by rw [hd, encS, List.append_assoc]
 have hc := C.countS_enc zs pos s.size 65536 (C.strBytes s) t hd' (C.strBytes_len s) (by omega) (by omega)
 refine (C.rtext_ok 65536 h (by omega) (by omega) s.size (C.enc 10 (s.size : Int)).length hc).mono ?_
 rintro e w' ⟨str, rfl, hs, hR, hO⟩
 have e1 : zs.drop (pos + (C.enc 10 (s.size : Int)).length) = C.strBytes s ++ t := by rw [<- List.drop_drop, hd', List.drop_left]
 rw [e1, List.take_left' (C.strBytes_len s)] at hs
 obtain rfl := C.strBytes_inj hs
 refine ⟨rfl, ?_, hO⟩
 have e2 : pos + (encS str).length = pos + (C.enc 10 (str.size : Int)).length + str.size := by rw [encS, List.length_append, C.strBytes_len]; omega
 rw [e2]
 exact hR
theorem dname (h : RAt wr r ao N cap zs pos) (s : ByteArray) (t : List Int) (hd : zs.drop pos = encS s ++ t) (h1 : s.size <= 65536) :
  Calls Tryz.prog 97 #[.pointer (some ⟨r, 0, none⟩)] wr (DE wr r ao N cap zs (pos + (encS s).length) (.string s)) := by
 have HC : Hid (RAt wr r ao N cap zs pos /\ zs.drop pos = encS s ++ t) := ⟨h, hd⟩
 clear h hd
 go_enter Tryz.func97, Tryz.ntmps97
 go_wp2_with (go_at_call 130; refine (dtext HC.out.1 s t HC.out.2 h1).mono ?_; rintro e w1 ⟨rfl, h1, o1⟩)
 go_ret
 exact ⟨rfl, h1, o1⟩
theorem dnum (h : RAt wr r ao N cap zs pos) (n : Int) (t : List Int) (hd : zs.drop pos = encI n ++ t) (h0 : 0 <= n) (h1 : n <= 2147483647) :
  Calls Tryz.prog 137 #[.pointer (some ⟨r, 0, none⟩)] wr (DE wr r ao N cap zs (pos + (encI n).length) (.int .i64 n)) := by
 have HC : Hid (RAt wr r ao N cap zs pos /\ zs.drop pos = C.enc 10 n ++ t) := ⟨h, hd⟩
 clear h hd
 go_enter Tryz.func137, Tryz.ntmps137
 go_wp2_with (go_at_call 98; refine (dint HC.out.1 n t HC.out.2 h0 h1).mono ?_; rintro e w1 ⟨rfl, h1, o1⟩)
 go_ret
 exact ⟨rfl, h1, o1⟩
end
theorem rinv_kept2 {w w' : World} {r : Nat} {ao : Option Addr} {N cap : Nat} {xs : List Int} {pos : Nat} {err : Int} (h : C.RInv w r ao N cap xs pos err) (hr : w'.heap[r]? = w.heap[r]?) (hd : ∀ g, ao = some ⟨g, 0, none⟩ -> w'.heap[g]? = w.heap[g]?) : C.RInv w' r ao N cap xs pos err := by
 refine ⟨hr.trans h.hr, h.len, ⟨h.row.1, fun hne => ?_⟩, h.nil, h.cap, h.pos, h.lim, h.shape⟩
 obtain ⟨b, off, e, hc⟩ := h.row.2 hne
 refine ⟨b, off, e, fun i hi => ?_⟩
 rcases h.shape with e2 | ⟨g, e2⟩
 ·rw [e2] at e; cases e
 ·rw [e2] at e
  simp at e
  obtain ⟨rfl, rfl⟩ := e
  exact (World.cell?_of_block (a := ⟨g, 0 + i, none⟩) (hd g e2)).trans (hc i hi)
theorem enc_pos (n : Int) : 0 < (C.enc 10 n).length := List.length_pos_iff.2 (C.enc_ne n)
theorem encS_pos (s : ByteArray) : 0 < (encS s).length := by rw [encS, List.length_append]; have := enc_pos (s.size : Int); omega
theorem encI_pos (n : Int) : 0 < (encI n).length := enc_pos n
theorem flat_ge {α : Type} (f : α -> List Int) (hf : ∀ s, 0 < (f s).length) : ∀ l : List α, l.length <= (l.flatMap f).length
 | [] => Nat.le_refl _
 | s :: r => by
  have := flat_ge f hf r
  have := hf s
  rw [List.flatMap_cons, List.length_append, List.length_cons]
  omega
theorem rl_str {wr : World} {r : Nat} {ao : Option Addr} {N cap : Nat} {zs : List Int} {pos : Nat} (h : RAt wr r ao N cap zs pos) (hg : ∀ g, ao = some ⟨g, 0, none⟩ -> g < wr.heap.size) (l : List ByteArray) (t : List Int) (hd : zs.drop pos = encL encS l ++ t) (hz : ∀ s ∈ l, s.size <= 65536) (hl : l.length <= 1000000) :
  Calls Tryz.prog 96 #[.pointer (some ⟨r, 0, none⟩), .func (.func 97) #[] #[]] wr fun e w' => ∃ a c, e = .returned (.slice a l.length c) /\ GS w' (.slice a l.length c) l /\ (∀ k, (Value.slice a l.length c).ownBlock = some k -> wr.heap.size <= k) /\ RAt w' r ao N cap zs (pos + (encL encS l).length) /\ C.ROnly wr w' r := by
 have hn : l.length <= (l.flatMap encS).length := flat_ge encS (fun s => encS_pos s) l
 have hd1 : zs.drop pos = C.enc 10 (l.length : Int) ++ ((l.flatMap encS).take l.length ++ ((l.flatMap encS).drop l.length ++ t)) := by
  rw [hd, encL, List.append_assoc, <- List.append_assoc ((l.flatMap encS).take l.length), List.take_append_drop]
 have HCN : Hid _ := C.countS_enc zs pos l.length 2147483647 ((l.flatMap encS).take l.length) _ hd1 (by rw [List.length_take]; omega) (by omega) (by omega)
 have HD : Hid (∀ k, k < l.length -> ∃ t', zs.drop (pos + (C.enc 10 (l.length : Int)).length + ((l.take k).flatMap encS).length) = encS (l.getD k ByteArray.empty) ++ t') := fun k hk => by
  refine ⟨(l.drop (k + 1)).flatMap encS ++ t, ?_⟩
  rw [<- List.drop_drop, <- List.drop_drop, hd, encL, List.append_assoc, List.drop_left]
  have e : l.flatMap encS = (l.take k).flatMap encS ++ (encS (l.getD k ByteArray.empty) ++ (l.drop (k + 1)).flatMap encS) := by
   rw [<- List.append_assoc, <- flat_succ encS l k ByteArray.empty hk, <- List.flatMap_append, List.take_append_drop]
  rw [e, List.append_assoc, List.drop_left, List.append_assoc]
 have HZ : Hid (∀ s ∈ l, s.size <= 65536) := hz
 have HG : Hid (∀ g, ao = some ⟨g, 0, none⟩ -> g < wr.heap.size) := hg
 have HI : Hid (RAt wr r ao N cap zs pos) := h
 have HLR : Hid (r < wr.heap.size) := h.lt
 obtain ⟨ws, HWS⟩ : ∃ ws : World, Hid (ws = wr) := ⟨_, rfl⟩
 clear h hg hd hd1 hn hz
 go_enter Tryz.func96, Tryz.ntmps96
 go_wp2_with (go_at_call 128; refine (C.count_ok 1 2147483647 HI.out (by omega) (by omega) (by omega) (l.length : Int) (C.enc 10 (l.length : Int)).length HCN.out).mono ?_; rintro e w1 ⟨rfl, h1', o1'⟩; have h1 : Hid (RAt w1 r ao N cap zs (pos + (C.enc 10 (l.length : Int)).length)) := h1'; have o1 : Hid (C.ROnly ws w1 r) := (by rw [HWS.out]; exact o1'); clear h1' o1')
 go_loopw [5, 10] (fun v z wr => ∃ k : Nat, k <= l.length /\ z = .int .i64 k /\ GS wr v (l.take k) /\ (∀ j, v.ownBlock = some j -> ws.heap.size <= j) /\ RAt wr r ao N cap zs (pos + (C.enc 10 (l.length : Int)).length + ((l.take k).flatMap encS).length) /\ C.ROnly ws wr r) (fun _ z _ => l.length - (intOf z).toNat)
 case atStart => exact ⟨0, Nat.zero_le _, rfl, by simpa using GS.nil _, (fun j hj => by simp [Value.ownBlock] at hj), by simpa using h1.out, o1.out⟩
 case round =>
  clear h1 o1
  obtain ⟨k, hk, rfl, hS', hv', hR', hO'⟩ := hrel
  obtain ⟨va, vc, rfl⟩ := gs_len hS'
  have hkl : (l.take k).length = k := by rw [List.length_take]; omega
  rw [hkl] at hS' hv'
  rw [hkl]
  have HS : Hid (GS wr (.slice va k vc) (l.take k)) := hS'
  have HV : Hid (∀ j, (Value.slice va k vc).ownBlock = some j -> ws.heap.size <= j) := hv'
  have HR : Hid (RAt wr r ao N cap zs (pos + (C.enc 10 (l.length : Int)).length + ((l.take k).flatMap encS).length)) := hR'
  have HO : Hid (C.ROnly ws wr r) := hO'
  have HTL : Hid ((l.take k).length <= 1000000) := by show _ <= _; rw [List.length_take]; omega
  clear hS' hv' hR' hO' hkl
  by_cases hlt : k < l.length
  ·have klt : (k : Int) < (l.length : Int) := by omega
   obtain ⟨t', hdk⟩ := HD.out k hlt
   have HDK : Hid _ := hdk
   have hmem : l.getD k ByteArray.empty ∈ l := by simp [List.getD, hlt]
   have HZk : Hid _ := HZ.out _ hmem
   have HNX : Hid (l.take (k + 1) = l.take k ++ [l.getD k ByteArray.empty] /\ ((l.take (k + 1)).flatMap encS).length = ((l.take k).flatMap encS).length + (encS (l.getD k ByteArray.empty)).length) := by
    refine ⟨?_, by rw [flat_succ encS l k ByteArray.empty hlt, List.length_append]⟩
    rw [List.take_succ_eq_append_getElem hlt]
    simp [List.getD, hlt]
   have hpp := encS_pos (l.getD k ByteArray.empty)
   clear hdk hmem
   generalize l.getD k ByteArray.empty = s at *
   generalize hP : pos + (C.enc 10 (l.length : Int)).length + ((l.take k).flatMap encS).length = P at *
   have HPE : Hid (pos + (C.enc 10 (l.length : Int)).length + ((l.take k).flatMap encS).length = P) := hP
   generalize hQ : (encS s).length = Q at *
   have t1 : (((P + Q : Nat) : Int) == (P : Int)) = false := by simp only [beq_eq_false_iff_ne, ne_eq]; omega
   have t2 : (((P : Int) + (Q : Int)) == (P : Int)) = false := by simp only [beq_eq_false_iff_ne, ne_eq]; omega
   have HQ : Hid ((encS s).length = Q) := hQ
   have ARd : Hid (∀ w', C.ROnly wr w' r -> GS w' (.slice va k vc) (l.take k)) := fun w' ho => HS.out.kept fun j hj => ho.block j (HS.out.lt j hj) (fun e => by have := HV.out j hj; have := HLR.out; have := HWS.out; subst this; omega)
   clear hP hQ
   go_wp2_with (first
    | (go_at_call 129; guard_hyp HR : Hid (RAt wr r ao N cap zs P); refine (C.rat_any HR.out).mono ?_; rintro e w' ⟨rfl, rfl⟩; have HR0 : Hid (RAt wr r ao N cap zs P) := HR; clear HR)
    | (go_at_call 97; refine (dname HR0.out s t' HDK.out HZk.out).mono ?_; rintro e w2 ⟨rfl, h2', o2'⟩; have h2 : Hid (RAt w2 r ao N cap zs (P + Q)) := (by rw [<- HQ.out]; exact h2'); have o2 : Hid (C.ROnly ws w2 r) := HO.out.trans o2'; have S2 : Hid (GS w2 (.slice va k vc) (l.take k)) := ARd.out w2 o2'; clear h2' o2')
    | (go_at_call 129; refine (C.rat_any h2.out).mono ?_; rintro e w' ⟨rfl, rfl⟩)
    | (at_builtin; refine wpList_gs_append rfl _ _ rfl _ (l.take k) rfl (S2.out.later (below_alloc w2 _)) w2.heap.size 1 s rfl (by simp) HTL.out ?_; intro a4 n4 c4 w4 ho4 hg4))
   go_roundw
   case rel =>
    have hsz : ws.heap.size <= w2.heap.size := o2.out.size
    have hb2 : Below ws.heap.size (w2.alloc (.cells #[.string s] 9)) w4 := (Below.refl _ _).grown hg4.grown (Nat.le_trans hsz (below_alloc w2 _).size) HV.out
    have hb3 : Below ws.heap.size w2 w4 := ((below_alloc w2 _).mono hsz).trans hb2
    have hws := HWS.out
    refine ⟨k + 1, by omega, by go_num, ?_, ?_, ?_, ?_⟩
    ·rw [HNX.out.1]; exact ho4
    ·intro j hj
     rcases hg4.moved with e | ⟨z, e, hz⟩
     ·exact HV.out j (e ▸ hj)
     ·rw [hj] at e; have := Option.some.inj e; have := (below_alloc w2 (.cells #[.string s] 9)).size; omega
    ·rw [HNX.out.2, <- Nat.add_assoc, HPE.out]
     exact rinv_kept2 h2.out (hb3.block r (by rw [hws]; exact HLR.out)) (fun g eg => hb3.block g (by rw [hws]; exact HG.out g eg))
    ·exact ⟨hb3.os.trans o2.out.os, hb3.tape.trans o2.out.tape, hb3.output.trans o2.out.output, Nat.le_trans o2.out.size hb3.size, fun j hj hr => (hb3.block j hj).trans (o2.out.block j hj hr)⟩
   case measure => simp [intOf]; omega
  ·obtain rfl : k = l.length := by omega
   have hS2 := HS.out
   have hR2 := HR.out
   rw [List.take_length] at hS2 hR2
   have HS2 : Hid (GS wr (.slice va l.length vc) l) := hS2
   have HR2 : Hid (RAt wr r ao N cap zs (pos + (encL encS l).length)) := by
    show RAt _ _ _ _ _ _ _
    rw [encL, List.length_append, <- Nat.add_assoc]
    exact hR2
   clear hS2 hR2 HS HR
   go_wp2
   go_ret
   have hws := HWS.out
   subst hws
   exact ⟨va, vc, rfl, HS2.out, HV.out, HR2.out, HO.out⟩
theorem rl_int {wr : World} {r : Nat} {ao : Option Addr} {N cap : Nat} {zs : List Int} {pos : Nat} (h : RAt wr r ao N cap zs pos) (hg : ∀ g, ao = some ⟨g, 0, none⟩ -> g < wr.heap.size) (l : List Int) (t : List Int) (hd : zs.drop pos = encL encI l ++ t) (hz : ∀ s ∈ l, 0 <= s /\ s <= 2147483647) (hl : l.length <= 1000000) :
  Calls Tryz.prog 136 #[.pointer (some ⟨r, 0, none⟩), .func (.func 137) #[] #[]] wr fun e w' => ∃ a c, e = .returned (.slice a l.length c) /\ IL w' (.slice a l.length c) l /\ (∀ k, (Value.slice a l.length c).ownBlock = some k -> wr.heap.size <= k) /\ RAt w' r ao N cap zs (pos + (encL encI l).length) /\ C.ROnly wr w' r := by
 have hn : l.length <= (l.flatMap encI).length := flat_ge encI (fun s => encI_pos s) l
 have hd1 : zs.drop pos = C.enc 10 (l.length : Int) ++ ((l.flatMap encI).take l.length ++ ((l.flatMap encI).drop l.length ++ t)) := by
  rw [hd, encL, List.append_assoc, <- List.append_assoc ((l.flatMap encI).take l.length), List.take_append_drop]
 have HCN : Hid _ := C.countS_enc zs pos l.length 2147483647 ((l.flatMap encI).take l.length) _ hd1 (by rw [List.length_take]; omega) (by omega) (by omega)
 have HD : Hid (∀ k, k < l.length -> ∃ t', zs.drop (pos + (C.enc 10 (l.length : Int)).length + ((l.take k).flatMap encI).length) = encI (l.getD k 0) ++ t') := fun k hk => by
  refine ⟨(l.drop (k + 1)).flatMap encI ++ t, ?_⟩
  rw [<- List.drop_drop, <- List.drop_drop, hd, encL, List.append_assoc, List.drop_left]
  have e : l.flatMap encI = (l.take k).flatMap encI ++ (encI (l.getD k 0) ++ (l.drop (k + 1)).flatMap encI) := by
   rw [<- List.append_assoc, <- flat_succ encI l k 0 hk, <- List.flatMap_append, List.take_append_drop]
  rw [e, List.append_assoc, List.drop_left, List.append_assoc]
 have HZ : Hid (∀ s ∈ l, 0 <= s /\ s <= 2147483647) := hz
 have HG : Hid (∀ g, ao = some ⟨g, 0, none⟩ -> g < wr.heap.size) := hg
 have HI : Hid (RAt wr r ao N cap zs pos) := h
 have HLR : Hid (r < wr.heap.size) := h.lt
 obtain ⟨ws, HWS⟩ : ∃ ws : World, Hid (ws = wr) := ⟨_, rfl⟩
 clear h hg hd hd1 hn hz
 go_enter Tryz.func136, Tryz.ntmps136
 go_wp2_with (go_at_call 128; refine (C.count_ok 1 2147483647 HI.out (by omega) (by omega) (by omega) (l.length : Int) (C.enc 10 (l.length : Int)).length HCN.out).mono ?_; rintro e w1 ⟨rfl, h1', o1'⟩; have h1 : Hid (RAt w1 r ao N cap zs (pos + (C.enc 10 (l.length : Int)).length)) := h1'; have o1 : Hid (C.ROnly ws w1 r) := (by rw [HWS.out]; exact o1'); clear h1' o1')
 go_loopw [5, 10] (fun v z wr => ∃ k : Nat, k <= l.length /\ z = .int .i64 k /\ IL wr v (l.take k) /\ (∀ j, v.ownBlock = some j -> ws.heap.size <= j) /\ RAt wr r ao N cap zs (pos + (C.enc 10 (l.length : Int)).length + ((l.take k).flatMap encI).length) /\ C.ROnly ws wr r) (fun _ z _ => l.length - (intOf z).toNat)
 case atStart => exact ⟨0, Nat.zero_le _, rfl, by simpa using IL.nil _, (fun j hj => by simp [Value.ownBlock] at hj), by simpa using h1.out, o1.out⟩
 case round =>
  clear h1 o1
  obtain ⟨k, hk, rfl, hS', hv', hR', hO'⟩ := hrel
  obtain ⟨va, vc, rfl⟩ := il_len hS'
  have hkl : (l.take k).length = k := by rw [List.length_take]; omega
  rw [hkl] at hS' hv'
  rw [hkl]
  have HS : Hid (IL wr (.slice va k vc) (l.take k)) := hS'
  have HV : Hid (∀ j, (Value.slice va k vc).ownBlock = some j -> ws.heap.size <= j) := hv'
  have HR : Hid (RAt wr r ao N cap zs (pos + (C.enc 10 (l.length : Int)).length + ((l.take k).flatMap encI).length)) := hR'
  have HO : Hid (C.ROnly ws wr r) := hO'
  have HTL : Hid ((l.take k).length <= 1000000) := by show _ <= _; rw [List.length_take]; omega
  clear hS' hv' hR' hO' hkl
  by_cases hlt : k < l.length
  ·have klt : (k : Int) < (l.length : Int) := by omega
   obtain ⟨t', hdk⟩ := HD.out k hlt
   have HDK : Hid _ := hdk
   have hmem : l.getD k 0 ∈ l := by simp [List.getD, hlt]
   have HZk : Hid _ := HZ.out _ hmem
   have HNX : Hid (l.take (k + 1) = l.take k ++ [l.getD k 0] /\ ((l.take (k + 1)).flatMap encI).length = ((l.take k).flatMap encI).length + (encI (l.getD k 0)).length) := by
    refine ⟨?_, by rw [flat_succ encI l k 0 hlt, List.length_append]⟩
    rw [List.take_succ_eq_append_getElem hlt]
    simp [List.getD, hlt]
   have hpp := encI_pos (l.getD k 0)
   clear hdk hmem
   generalize l.getD k 0 = s at *
   generalize hP : pos + (C.enc 10 (l.length : Int)).length + ((l.take k).flatMap encI).length = P at *
   have HPE : Hid (pos + (C.enc 10 (l.length : Int)).length + ((l.take k).flatMap encI).length = P) := hP
   generalize hQ : (encI s).length = Q at *
   have t1 : (((P + Q : Nat) : Int) == (P : Int)) = false := by simp only [beq_eq_false_iff_ne, ne_eq]; omega
   have t2 : (((P : Int) + (Q : Int)) == (P : Int)) = false := by simp only [beq_eq_false_iff_ne, ne_eq]; omega
   have HQ : Hid ((encI s).length = Q) := hQ
   have ARd : Hid (∀ w', C.ROnly wr w' r -> IL w' (.slice va k vc) (l.take k)) := fun w' ho => HS.out.kept fun j hj => ho.block j (HS.out.lt j hj) (fun e => by have := HV.out j hj; have := HLR.out; have := HWS.out; subst this; omega)
   clear hP hQ
   go_wp2_with (first
    | (go_at_call 129; guard_hyp HR : Hid (RAt wr r ao N cap zs P); refine (C.rat_any HR.out).mono ?_; rintro e w' ⟨rfl, rfl⟩; have HR0 : Hid (RAt wr r ao N cap zs P) := HR; clear HR)
    | (go_at_call 137; refine (dnum HR0.out s t' HDK.out HZk.out.1 HZk.out.2).mono ?_; rintro e w2 ⟨rfl, h2', o2'⟩; have h2 : Hid (RAt w2 r ao N cap zs (P + Q)) := (by rw [<- HQ.out]; exact h2'); have o2 : Hid (C.ROnly ws w2 r) := HO.out.trans o2'; have S2 : Hid (IL w2 (.slice va k vc) (l.take k)) := ARd.out w2 o2'; clear h2' o2')
    | (go_at_call 129; refine (C.rat_any h2.out).mono ?_; rintro e w' ⟨rfl, rfl⟩)
    | (at_builtin; refine wpList_il_append rfl _ _ rfl _ (l.take k) rfl (S2.out.later (below_alloc w2 _)) w2.heap.size 1 s rfl (by simp) (Nat.le_trans HTL.out (by omega)) ?_; intro a4 n4 c4 w4 ho4 hg4))
   go_roundw
   case rel =>
    have hsz : ws.heap.size <= w2.heap.size := o2.out.size
    have hb2 : Below ws.heap.size (w2.alloc (.cells #[.int .i64 s] 3)) w4 := (Below.refl _ _).grown hg4.grown (Nat.le_trans hsz (below_alloc w2 _).size) HV.out
    have hb3 : Below ws.heap.size w2 w4 := ((below_alloc w2 _).mono hsz).trans hb2
    have hws := HWS.out
    refine ⟨k + 1, by omega, by go_num, ?_, ?_, ?_, ?_⟩
    ·rw [HNX.out.1]; exact ho4
    ·intro j hj
     rcases hg4.moved with e | ⟨z, e, hz⟩
     ·exact HV.out j (e ▸ hj)
     ·rw [hj] at e; have := Option.some.inj e; have := (below_alloc w2 (.cells #[.int .i64 s] 3)).size; omega
    ·rw [HNX.out.2, <- Nat.add_assoc, HPE.out]
     exact rinv_kept2 h2.out (hb3.block r (by rw [hws]; exact HLR.out)) (fun g eg => hb3.block g (by rw [hws]; exact HG.out g eg))
    ·exact ⟨hb3.os.trans o2.out.os, hb3.tape.trans o2.out.tape, hb3.output.trans o2.out.output, Nat.le_trans o2.out.size hb3.size, fun j hj hr => (hb3.block j hj).trans (o2.out.block j hj hr)⟩
   case measure => simp [intOf]; omega
  ·obtain rfl : k = l.length := by omega
   have hS2 := HS.out
   have hR2 := HR.out
   rw [List.take_length] at hS2 hR2
   have HS2 : Hid (IL wr (.slice va l.length vc) l) := hS2
   have HR2 : Hid (RAt wr r ao N cap zs (pos + (encL encI l).length)) := by
    show RAt _ _ _ _ _ _ _
    rw [encL, List.length_append, <- Nat.add_assoc]
    exact hR2
   clear hS2 hR2 HS HR
   go_wp2
   go_ret
   have hws := HWS.out
   subst hws
   exact ⟨va, vc, rfl, HS2.out, HV.out, HR2.out, HO.out⟩
theorem dsym {wr : World} {r : Nat} {ao : Option Addr} {N cap : Nat} {zs : List Int} {pos : Nat} (h : RAt wr r ao N cap zs pos) (k n : Int) (t : List Int) (hd : zs.drop pos = encY (k, n) ++ t) (hk : k = 1 ∨ k = 2) (h0 : 0 <= n) (h1 : n <= 1048576) :
  Calls Tryz.prog 134 #[.pointer (some ⟨r, 0, none⟩)] wr (DE wr r ao N cap zs (pos + (encY (k, n)).length) (.agg #[.int .i64 k, .int .i64 n])) := by
 have HO : Hid (C.ROnly wr (wr.alloc (.cells #[.int .i64 0, .int .i64 0] 30)) r) := C.ROnly.ofBelow (below_alloc wr _)
 rcases hk with rfl | rfl
 ·have HY : Hid (encY (1, n) = C.enc 10 (2 * n)) := by show _ = _; unfold encY; simp
  rw [HY.out] at hd
  rw [HY.out]
  have HC : Hid (RAt (wr.alloc (.cells #[.int .i64 0, .int .i64 0] 30)) r ao N cap zs pos /\ zs.drop pos = C.enc 10 (2 * n) ++ t) := ⟨h.later (below_alloc wr _), hd⟩
  have t1 : ((2 * n) % 2 == 1) = false := by simp only [beq_eq_false_iff_ne, ne_eq]; omega
  have t3 : (2 * n) / 2 = n := by omega
  have hLT : Hid (r < wr.heap.size) := h.lt
  have HH : Hid (RAt wr r ao N cap zs pos) := h
  have AX : Hid (∀ w1, C.ROnly (wr.alloc (.cells #[.int .i64 0, .int .i64 0] 30)) w1 r -> w1.heap[wr.heap.size]? = some (.cells #[.int .i64 0, .int .i64 0] 30 (0, 0))) := fun w1 ho => (ho.block _ (lt_of_block (heap_alloc_new wr _)) (fun e => by have := hLT.out; omega)).trans (heap_alloc_new wr _)
  clear h hd
  go_enter Tryz.func134, Tryz.ntmps134
  go_wp2_with (go_at_call 98; refine (dint HC.out.1 (2 * n) t HC.out.2 (by omega) (by omega)).mono ?_; rintro e w1 ⟨rfl, h1', o1'⟩; have e1 := AX.out w1 o1'; have z0 : w1.cell? ⟨wr.heap.size, 0, none⟩ = some (.int .i64 0) := (by rw [cellq_any e1]; rfl); have z1 : w1.cell? ⟨wr.heap.size, 1, none⟩ = some (.int .i64 0) := (by rw [cellq_any e1]; rfl); have y0 : w1.frozen? ⟨wr.heap.size, 0, none⟩ = false := (by simp [World.frozen?, e1]); have y1 : w1.frozen? ⟨wr.heap.size, 1, none⟩ = false := (by simp [World.frozen?, e1]); have h1 : Hid (RAt w1 r ao N cap zs (pos + (C.enc 10 (2 * n)).length)) := h1'; have o1 : Hid (C.ROnly wr w1 r) := HO.out.trans o1'; have hz1 : wr.heap.size < w1.heap.size := lt_of_block e1; clear h1' o1' e1)
  refine bodyPost_ret (v := .agg #[.int .i64 1, .int .i64 n]) (by simp [results, Tryz.results134, go_sem, z0, z1]) rfl ?_
  exact ⟨rfl, HH.out.patched h1.out (C.two_sets _ _ _ _), o1.out.patched (C.two_sets _ _ _ _)⟩
 ·have HY : Hid (encY (2, n) = C.enc 10 (2 * n + 1)) := by show _ = _; unfold encY; simp
  rw [HY.out] at hd
  rw [HY.out]
  have HC : Hid (RAt (wr.alloc (.cells #[.int .i64 0, .int .i64 0] 30)) r ao N cap zs pos /\ zs.drop pos = C.enc 10 (2 * n + 1) ++ t) := ⟨h.later (below_alloc wr _), hd⟩
  have t1 : ((2 * n + 1) % 2 == 1) = true := by simp only [beq_iff_eq]; omega
  have t3 : (2 * n + 1) / 2 = n := by omega
  have hLT : Hid (r < wr.heap.size) := h.lt
  have HH : Hid (RAt wr r ao N cap zs pos) := h
  have AX : Hid (∀ w1, C.ROnly (wr.alloc (.cells #[.int .i64 0, .int .i64 0] 30)) w1 r -> w1.heap[wr.heap.size]? = some (.cells #[.int .i64 0, .int .i64 0] 30 (0, 0))) := fun w1 ho => (ho.block _ (lt_of_block (heap_alloc_new wr _)) (fun e => by have := hLT.out; omega)).trans (heap_alloc_new wr _)
  clear h hd
  go_enter Tryz.func134, Tryz.ntmps134
  go_wp2_with (go_at_call 98; refine (dint HC.out.1 (2 * n + 1) t HC.out.2 (by omega) (by omega)).mono ?_; rintro e w1 ⟨rfl, h1', o1'⟩; have e1 := AX.out w1 o1'; have z0 : w1.cell? ⟨wr.heap.size, 0, none⟩ = some (.int .i64 0) := (by rw [cellq_any e1]; rfl); have z1 : w1.cell? ⟨wr.heap.size, 1, none⟩ = some (.int .i64 0) := (by rw [cellq_any e1]; rfl); have y0 : w1.frozen? ⟨wr.heap.size, 0, none⟩ = false := (by simp [World.frozen?, e1]); have y1 : w1.frozen? ⟨wr.heap.size, 1, none⟩ = false := (by simp [World.frozen?, e1]); have h1 : Hid (RAt w1 r ao N cap zs (pos + (C.enc 10 (2 * n + 1)).length)) := h1'; have o1 : Hid (C.ROnly wr w1 r) := HO.out.trans o1'; have hz1 : wr.heap.size < w1.heap.size := lt_of_block e1; clear h1' o1' e1)
  refine bodyPost_ret (v := .agg #[.int .i64 2, .int .i64 n]) (by simp [results, Tryz.results134, go_sem, z0, z1]) rfl ?_
  exact ⟨rfl, HH.out.patched h1.out (C.two_sets _ _ _ _), o1.out.patched (C.two_sets _ _ _ _)⟩
end Go.Proofs.YthgnhdnmcjpdmaaGreatDoor
