import Derived.Test.YtmkakdfdfdcncaaGreatDoorGE5
import Derived.Test.YtmkakdfdfdcncaaGreatDoorGDec9ToGDec11
namespace Go.Proofs.YtmkakdfdfdcncaaGreatDoor
set_option linter.unusedVariables false
open Go.RowKit

set_option maxRecDepth 100000 in
set_option maxHeartbeats 4000000 in
theorem xl_lev {wr : World} {r : Nat} {ao : Option Addr} {N cap : Nat} {zs : List Int} {pos : Nat} {err : Int} (h : C.RInv wr r ao N cap zs pos err) (hg : ∀ g, ao = some ⟨g, 0, none⟩ → g < wr.heap.size) (hz : zs.length ≤ 16777216) (M : List (Int × List Int)) (P : Nat) (E : Int) (hL : liS zs (lvS zs) pos err = (M, P, E)) :
    Calls Tryz.prog 159 #[.pointer (some ⟨r, 0, none⟩), .func (.func 160) #[] #[]] wr fun e w' => ∃ a c L, e = .returned (.slice a L.length c) ∧ L.map LV.core = M ∧ LO wr.heap.size w' (.slice a L.length c) L ∧ C.RInv w' r ao N cap zs P E ∧ C.ROnly wr w' r := by
  obtain ⟨n, p1, e1, hc⟩ : ∃ n p1 e1, ctS zs pos err = (n, p1, e1) := ⟨_, _, _, rfl⟩
  have HCT : Hid (ctS zs pos err = (n, p1, e1)) := hc
  have HLS : Hid (lsS (lvS zs) n p1 e1 = (M, P, E)) := by show _ = _; rw [liS, hc] at hL; exact hL
  have HZ : Hid (zs.length ≤ 16777216) := hz
  have HRD : Hid (Rd1 zs (lvS zs) encVc) := rd_lv h.row.1
  have HG : Hid (∀ g, ao = some ⟨g, 0, none⟩ → g < wr.heap.size) := hg
  have HI : Hid (C.RInv wr r ao N cap zs pos err) := h
  have HLR : Hid (r < wr.heap.size) := h.lt
  obtain ⟨ws, HWS⟩ : ∃ ws : World, Hid (ws = wr) := ⟨_, rfl⟩
  clear h hg hL hc hz
  go_enter Tryz.func159, Tryz.ntmps159
  go_wp2_with (go_at_call 192; refine (xct HI.out n p1 e1 HCT.out).mono ?_; rintro e w1 ⟨rfl, h1', o1'⟩; have h1 : Hid (C.RInv w1 r ao N cap zs p1 e1) := h1'; have o1 : Hid (C.ROnly ws w1 r) := (by rw [HWS.out]; exact o1'); clear h1' o1')
  go_loopw [5, 10] (fun v z wr => ∃ (k : Nat) (K : List LV) (p : Nat) (e : Int), k ≤ n ∧ z = .int .i64 k ∧ K.length = k ∧ k ≤ p ∧ LO ws.heap.size wr v K ∧ C.RInv wr r ao N cap zs p e ∧ C.ROnly ws wr r ∧ (K.map LV.core ++ (lsS (lvS zs) (n - k) p e).1, (lsS (lvS zs) (n - k) p e).2) = (M, P, E)) (fun _ z _ => n - (intOf z).toNat)
  case atStart => exact ⟨0, [], p1, e1, Nat.zero_le _, rfl, rfl, Nat.zero_le _, LO.nil _ _, h1.out, o1.out, HLS.out⟩
  case round =>
    clear h1 o1
    obtain ⟨k, K, p, e, hk, rfl, hKl, hkp, hS', hR', hO', hF'⟩ := hrel
    obtain ⟨va, vc, rfl⟩ := hS'.row.len
    rw [hKl] at hS'
    rw [hKl]
    have HKL : Hid (K.length = k ∧ k ≤ p) := ⟨hKl, hkp⟩
    have HPZ : Hid (p ≤ zs.length) := hR'.pos
    have HS : Hid (LO ws.heap.size wr (.slice va k vc) K) := hS'
    have HR : Hid (C.RInv wr r ao N cap zs p e) := hR'
    have HO : Hid (C.ROnly ws wr r) := hO'
    have HF : Hid ((K.map LV.core ++ (lsS (lvS zs) (n - k) p e).1, (lsS (lvS zs) (n - k) p e).2) = (M, P, E)) := hF'
    have hkz : k ≤ 16777216 := by have := HZ.out; have := hR'.pos; omega
    have HTL : Hid (K.length ≤ 100000000) := by show _ ≤ _; omega
    clear hS' hR' hO' hF' hKl hkp
    by_cases hlt : k < n
    · have klt : (k : Int) < (n : Int) := by omega
      obtain ⟨s, p', e', hR⟩ : ∃ s p' e', lvS zs p e = (s, p', e') := ⟨_, _, _, rfl⟩
      have HRR : Hid (lvS zs p e = (s, p', e')) := hR
      have HMO : Hid (p ≤ p' ∧ p' ≤ zs.length) := by have := HRD.out.mono p e HPZ.out; rw [hR] at this; exact this
      have HGO : Hid ((p' = p → K.map LV.core = M ∧ p' = P ∧ e' = E) ∧ (p' ≠ p → ((K.map LV.core ++ [s]) ++ (lsS (lvS zs) (n - (k + 1)) p' e').1, (lsS (lvS zs) (n - (k + 1)) p' e').2) = (M, P, E))) := ls_go HF.out hlt hR
      have ARd : Hid (∀ w', C.ROnly wr w' r → LO ws.heap.size w' (.slice va k vc) K) := fun w' ho => HS.out.kept fun j hj hjs => ho.block j hjs (fun e => by have := HLR.out; have := HWS.out; subst this; omega)
      have HGG : Hid (∀ g, ao = some ⟨g, 0, none⟩ → g < wr.heap.size) := fun g eg => Nat.lt_of_lt_of_le (by have := HG.out g eg; rw [HWS.out]; exact this) HO.out.size
      clear hR
      obtain ⟨sa, sl⟩ := s
      by_cases hpp : p' = p
      · obtain ⟨eL, eP, eE⟩ := HGO.out.1 hpp
        subst hpp
        have HEQ : Hid (K.map LV.core = M ∧ p' = P ∧ e' = E) := ⟨eL, eP, eE⟩
        clear eL eP eE
        have t1 : (((p' : Nat) : Int) == (p' : Int)) = true := by simp
        go_wp2_with (first
          | (go_at_call 193; guard_hyp HR : Hid (C.RInv wr r ao N cap zs p' e); refine (C.rat_any HR.out).mono ?_; rintro e w' ⟨rfl, rfl⟩; have HR0 : Hid (C.RInv wr r ao N cap zs p' _) := HR; clear HR)
          | (go_at_call 160; refine (xlev HR0.out HGG.out HZ.out sa sl p' e' HRR.out).mono ?_; rintro e w2 ⟨ta, tc, rfl, s2', v2', h2', o2'⟩; have h2 : Hid (C.RInv w2 r ao N cap zs p' e') := h2'; have o2 : Hid (C.ROnly ws w2 r) := HO.out.trans o2'; have S2 : Hid (LO ws.heap.size w2 (.slice va k vc) K) := ARd.out w2 o2'; clear h2' o2' s2' v2')
          | (go_at_call 193; refine (C.rat_any (h2.out.later (below_alloc w2 _))).mono ?_; rintro e w' ⟨rfl, rfl⟩))
        go_ret
        have hws := HWS.out
        subst hws
        obtain ⟨rfl, rfl, rfl⟩ := HEQ.out
        have hkl := HKL.out.1
        subst hkl
        exact ⟨va, vc, K, rfl, rfl, S2.out.later (below_alloc _ _), h2.out.later (below_alloc _ _), ro_then o2.out ((below_alloc _ _).mono o2.out.size)⟩
      · have t1 : (((p' : Nat) : Int) == (p : Int)) = false := by simp only [beq_eq_false_iff_ne, ne_eq]; omega
        go_wp2_with (first
          | (go_at_call 193; guard_hyp HR : Hid (C.RInv wr r ao N cap zs p e); refine (C.rat_any HR.out).mono ?_; rintro e w' ⟨rfl, rfl⟩; have HR0 : Hid (C.RInv wr r ao N cap zs p _) := HR; clear HR)
          | (go_at_call 160; refine (xlev HR0.out HGG.out HZ.out sa sl p' e' HRR.out).mono ?_; rintro e w2 ⟨ta, tc, rfl, s2', v2', h2', o2'⟩; have h2 : Hid (C.RInv w2 r ao N cap zs p' e') := h2'; have o2 : Hid (C.ROnly ws w2 r) := HO.out.trans o2'; have S2 : Hid (LO ws.heap.size w2 (.slice va k vc) K) := ARd.out w2 o2'; have I2 : Hid (IL w2 (.slice ta sl.length tc) sl) := s2'; have V2 : Hid (∀ j, (Value.slice ta sl.length tc).ownBlock = some j → ws.heap.size ≤ j ∧ (Value.slice va k vc).ownBlock ≠ some j) := (fun j hj => ⟨Nat.le_trans HO.out.size (v2' j hj), fun e => by have := HS.out.row.lt j e; have := v2' j hj; omega⟩); clear h2' o2' s2' v2')
          | (go_at_call 193; refine (C.rat_any (h2.out.later (below_alloc w2 _))).mono ?_; rintro e w' ⟨rfl, rfl⟩)
          | (at_builtin; refine wpList_LY_append_w rfl _ _ rfl _ K rfl ((S2.out.later (below_alloc w2 _)).later (below_alloc _ _)).row _ 1 ⟨sa, ta, tc, sl⟩ rfl (new2 w2 _ _ _ _) HTL.out ?_; intro a4 n4 c4 w4 ho4 hg4))
        go_roundw
        case rel =>
          have hsz : ws.heap.size ≤ w2.heap.size := o2.out.size
          have hb1 : Below w2.heap.size w2 ((w2.alloc (.cells #[.int .i64 sa, .slice ta sl.length tc] 100)).alloc (.cells #[.int .i64 sa, .slice ta sl.length tc] 100)) := (below_alloc w2 _).trans ((below_alloc _ _).mono (below_alloc w2 _).size)
          have hb2 : Below ws.heap.size ((w2.alloc (.cells #[.int .i64 sa, .slice ta sl.length tc] 100)).alloc (.cells #[.int .i64 sa, .slice ta sl.length tc] 100)) w4 := (Below.refl _ _).grown hg4.grown (Nat.le_trans hsz hb1.size) S2.out.lo
          have hb3 : Below ws.heap.size w2 w4 := (hb1.mono hsz).trans hb2
          have hws := HWS.out
          have hmo := HMO.out
          have hkl := HKL.out
          refine ⟨k + 1, K ++ [⟨sa, ta, tc, sl⟩], p', e', by omega, by go_num, by simp [hkl.1], by omega, ?_, ?_, ro_then o2.out hb3, ?_⟩
          · exact (S2.out.later hb1).append ho4 hg4 (Nat.le_trans hsz hb1.size) (I2.out.later hb1) V2.out
          · exact rinv_kept2 h2.out (hb3.block r (by rw [hws]; exact HLR.out)) (fun g eg => hb3.block g (by rw [hws]; exact HG.out g eg))
          · rw [List.map_append]; exact HGO.out.2 hpp
        case measure => simp [intOf]; omega
    · obtain rfl : k = n := by omega
      obtain ⟨eL, eP, eE⟩ := ls_end HF.out
      have HEQ : Hid (K.map LV.core = M ∧ p = P ∧ e = E) := ⟨eL, eP, eE⟩
      clear eL eP eE
      go_wp2
      go_ret
      have hws := HWS.out
      subst hws
      obtain ⟨rfl, rfl, rfl⟩ := HEQ.out
      have hkl := HKL.out.1
      subst hkl
      exact ⟨va, vc, K, rfl, rfl, HS.out, HR.out, HO.out⟩
set_option maxRecDepth 100000 in
set_option maxHeartbeats 4000000 in
theorem xl_prod {wr : World} {r : Nat} {ao : Option Addr} {N cap : Nat} {zs : List Int} {pos : Nat} {err : Int} (h : C.RInv wr r ao N cap zs pos err) (hg : ∀ g, ao = some ⟨g, 0, none⟩ → g < wr.heap.size) (hz : zs.length ≤ 16777216) (M : List (Int × List (Int × Int) × Int)) (P : Nat) (E : Int) (hL : liS zs (prS zs) pos err = (M, P, E)) :
    Calls Tryz.prog 157 #[.pointer (some ⟨r, 0, none⟩), .func (.func 158) #[] #[]] wr fun e w' => ∃ a c L, e = .returned (.slice a L.length c) ∧ L.map PV.core = M ∧ PO wr.heap.size w' (.slice a L.length c) L ∧ C.RInv w' r ao N cap zs P E ∧ C.ROnly wr w' r := by
  obtain ⟨n, p1, e1, hc⟩ : ∃ n p1 e1, ctS zs pos err = (n, p1, e1) := ⟨_, _, _, rfl⟩
  have HCT : Hid (ctS zs pos err = (n, p1, e1)) := hc
  have HLS : Hid (lsS (prS zs) n p1 e1 = (M, P, E)) := by show _ = _; rw [liS, hc] at hL; exact hL
  have HZ : Hid (zs.length ≤ 16777216) := hz
  have HRD : Hid (Rd1 zs (prS zs) encPc) := rd_pr h.row.1
  have HG : Hid (∀ g, ao = some ⟨g, 0, none⟩ → g < wr.heap.size) := hg
  have HI : Hid (C.RInv wr r ao N cap zs pos err) := h
  have HLR : Hid (r < wr.heap.size) := h.lt
  obtain ⟨ws, HWS⟩ : ∃ ws : World, Hid (ws = wr) := ⟨_, rfl⟩
  clear h hg hL hc hz
  go_enter Tryz.func157, Tryz.ntmps157
  go_wp2_with (go_at_call 192; refine (xct HI.out n p1 e1 HCT.out).mono ?_; rintro e w1 ⟨rfl, h1', o1'⟩; have h1 : Hid (C.RInv w1 r ao N cap zs p1 e1) := h1'; have o1 : Hid (C.ROnly ws w1 r) := (by rw [HWS.out]; exact o1'); clear h1' o1')
  go_loopw [5, 10] (fun v z wr => ∃ (k : Nat) (K : List PV) (p : Nat) (e : Int), k ≤ n ∧ z = .int .i64 k ∧ K.length = k ∧ k ≤ p ∧ PO ws.heap.size wr v K ∧ C.RInv wr r ao N cap zs p e ∧ C.ROnly ws wr r ∧ (K.map PV.core ++ (lsS (prS zs) (n - k) p e).1, (lsS (prS zs) (n - k) p e).2) = (M, P, E)) (fun _ z _ => n - (intOf z).toNat)
  case atStart => exact ⟨0, [], p1, e1, Nat.zero_le _, rfl, rfl, Nat.zero_le _, PO.nil _ _, h1.out, o1.out, HLS.out⟩
  case round =>
    clear h1 o1
    obtain ⟨k, K, p, e, hk, rfl, hKl, hkp, hS', hR', hO', hF'⟩ := hrel
    obtain ⟨va, vc, rfl⟩ := hS'.row.len
    rw [hKl] at hS'
    rw [hKl]
    have HKL : Hid (K.length = k ∧ k ≤ p) := ⟨hKl, hkp⟩
    have HPZ : Hid (p ≤ zs.length) := hR'.pos
    have HS : Hid (PO ws.heap.size wr (.slice va k vc) K) := hS'
    have HR : Hid (C.RInv wr r ao N cap zs p e) := hR'
    have HO : Hid (C.ROnly ws wr r) := hO'
    have HF : Hid ((K.map PV.core ++ (lsS (prS zs) (n - k) p e).1, (lsS (prS zs) (n - k) p e).2) = (M, P, E)) := hF'
    have hkz : k ≤ 16777216 := by have := HZ.out; have := hR'.pos; omega
    have HTL : Hid (K.length ≤ 100000000) := by show _ ≤ _; omega
    clear hS' hR' hO' hF' hKl hkp
    by_cases hlt : k < n
    · have klt : (k : Int) < (n : Int) := by omega
      obtain ⟨s, p', e', hR⟩ : ∃ s p' e', prS zs p e = (s, p', e') := ⟨_, _, _, rfl⟩
      have HRR : Hid (prS zs p e = (s, p', e')) := hR
      have HMO : Hid (p ≤ p' ∧ p' ≤ zs.length) := by have := HRD.out.mono p e HPZ.out; rw [hR] at this; exact this
      have HGO : Hid ((p' = p → K.map PV.core = M ∧ p' = P ∧ e' = E) ∧ (p' ≠ p → ((K.map PV.core ++ [s]) ++ (lsS (prS zs) (n - (k + 1)) p' e').1, (lsS (prS zs) (n - (k + 1)) p' e').2) = (M, P, E))) := ls_go HF.out hlt hR
      have ARd : Hid (∀ w', C.ROnly wr w' r → PO ws.heap.size w' (.slice va k vc) K) := fun w' ho => HS.out.kept fun j hj hjs => ho.block j hjs (fun e => by have := HLR.out; have := HWS.out; subst this; omega)
      have HGG : Hid (∀ g, ao = some ⟨g, 0, none⟩ → g < wr.heap.size) := fun g eg => Nat.lt_of_lt_of_le (by have := HG.out g eg; rw [HWS.out]; exact this) HO.out.size
      clear hR
      obtain ⟨sa, sl, sp⟩ := s
      by_cases hpp : p' = p
      · obtain ⟨eL, eP, eE⟩ := HGO.out.1 hpp
        subst hpp
        have HEQ : Hid (K.map PV.core = M ∧ p' = P ∧ e' = E) := ⟨eL, eP, eE⟩
        clear eL eP eE
        have t1 : (((p' : Nat) : Int) == (p' : Int)) = true := by simp
        go_wp2_with (first
          | (go_at_call 193; guard_hyp HR : Hid (C.RInv wr r ao N cap zs p' e); refine (C.rat_any HR.out).mono ?_; rintro e w' ⟨rfl, rfl⟩; have HR0 : Hid (C.RInv wr r ao N cap zs p' _) := HR; clear HR)
          | (go_at_call 158; refine (xprod HR0.out HGG.out HZ.out sa sl sp p' e' HRR.out).mono ?_; rintro e w2 ⟨ta, tc, rfl, s2', v2', h2', o2'⟩; have h2 : Hid (C.RInv w2 r ao N cap zs p' e') := h2'; have o2 : Hid (C.ROnly ws w2 r) := HO.out.trans o2'; have S2 : Hid (PO ws.heap.size w2 (.slice va k vc) K) := ARd.out w2 o2'; clear h2' o2' s2' v2')
          | (go_at_call 193; refine (C.rat_any (h2.out.later (below_alloc w2 _))).mono ?_; rintro e w' ⟨rfl, rfl⟩))
        go_ret
        have hws := HWS.out
        subst hws
        obtain ⟨rfl, rfl, rfl⟩ := HEQ.out
        have hkl := HKL.out.1
        subst hkl
        exact ⟨va, vc, K, rfl, rfl, S2.out.later (below_alloc _ _), h2.out.later (below_alloc _ _), ro_then o2.out ((below_alloc _ _).mono o2.out.size)⟩
      · have t1 : (((p' : Nat) : Int) == (p : Int)) = false := by simp only [beq_eq_false_iff_ne, ne_eq]; omega
        go_wp2_with (first
          | (go_at_call 193; guard_hyp HR : Hid (C.RInv wr r ao N cap zs p e); refine (C.rat_any HR.out).mono ?_; rintro e w' ⟨rfl, rfl⟩; have HR0 : Hid (C.RInv wr r ao N cap zs p _) := HR; clear HR)
          | (go_at_call 158; refine (xprod HR0.out HGG.out HZ.out sa sl sp p' e' HRR.out).mono ?_; rintro e w2 ⟨ta, tc, rfl, s2', v2', h2', o2'⟩; have h2 : Hid (C.RInv w2 r ao N cap zs p' e') := h2'; have o2 : Hid (C.ROnly ws w2 r) := HO.out.trans o2'; have S2 : Hid (PO ws.heap.size w2 (.slice va k vc) K) := ARd.out w2 o2'; have I2 : Hid (SY w2 (.slice ta sl.length tc) sl) := s2'; have V2 : Hid (∀ j, (Value.slice ta sl.length tc).ownBlock = some j → ws.heap.size ≤ j ∧ (Value.slice va k vc).ownBlock ≠ some j) := (fun j hj => ⟨Nat.le_trans HO.out.size (v2' j hj), fun e => by have := HS.out.row.lt j e; have := v2' j hj; omega⟩); clear h2' o2' s2' v2')
          | (go_at_call 193; refine (C.rat_any (h2.out.later (below_alloc w2 _))).mono ?_; rintro e w' ⟨rfl, rfl⟩)
          | (at_builtin; refine wpList_PY_append_w rfl _ _ rfl _ K rfl ((S2.out.later (below_alloc w2 _)).later (below_alloc _ _)).row _ 1 ⟨sa, ta, tc, sl, sp⟩ rfl (new3 w2 _ _ _ _ _) HTL.out ?_; intro a4 n4 c4 w4 ho4 hg4))
        go_roundw
        case rel =>
          have hsz : ws.heap.size ≤ w2.heap.size := o2.out.size
          have hb1 : Below w2.heap.size w2 ((w2.alloc (.cells #[.int .i64 sa, .slice ta sl.length tc, .int .i64 sp] 72)).alloc (.cells #[.int .i64 sa, .slice ta sl.length tc, .int .i64 sp] 72)) := (below_alloc w2 _).trans ((below_alloc _ _).mono (below_alloc w2 _).size)
          have hb2 : Below ws.heap.size ((w2.alloc (.cells #[.int .i64 sa, .slice ta sl.length tc, .int .i64 sp] 72)).alloc (.cells #[.int .i64 sa, .slice ta sl.length tc, .int .i64 sp] 72)) w4 := (Below.refl _ _).grown hg4.grown (Nat.le_trans hsz hb1.size) S2.out.lo
          have hb3 : Below ws.heap.size w2 w4 := (hb1.mono hsz).trans hb2
          have hws := HWS.out
          have hmo := HMO.out
          have hkl := HKL.out
          refine ⟨k + 1, K ++ [⟨sa, ta, tc, sl, sp⟩], p', e', by omega, by go_num, by simp [hkl.1], by omega, ?_, ?_, ro_then o2.out hb3, ?_⟩
          · exact (S2.out.later hb1).append ho4 hg4 (Nat.le_trans hsz hb1.size) (I2.out.later hb1) V2.out
          · exact rinv_kept2 h2.out (hb3.block r (by rw [hws]; exact HLR.out)) (fun g eg => hb3.block g (by rw [hws]; exact HG.out g eg))
          · rw [List.map_append]; exact HGO.out.2 hpp
        case measure => simp [intOf]; omega
    · obtain rfl : k = n := by omega
      obtain ⟨eL, eP, eE⟩ := ls_end HF.out
      have HEQ : Hid (K.map PV.core = M ∧ p = P ∧ e = E) := ⟨eL, eP, eE⟩
      clear eL eP eE
      go_wp2
      go_ret
      have hws := HWS.out
      subst hws
      obtain ⟨rfl, rfl, rfl⟩ := HEQ.out
      have hkl := HKL.out.1
      subst hkl
      exact ⟨va, vc, K, rfl, rfl, HS.out, HR.out, HO.out⟩
end Go.Proofs.YtmkakdfdfdcncaaGreatDoor
