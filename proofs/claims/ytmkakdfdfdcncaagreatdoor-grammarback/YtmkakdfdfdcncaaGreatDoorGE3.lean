import Derived.Test.YtmkakdfdfdcncaaGreatDoorGE2
namespace Go.Proofs.YtmkakdfdfdcncaaGreatDoor
set_option linter.unusedVariables false
open Go.RowKit

set_option maxRecDepth 100000 in
set_option maxHeartbeats 4000000 in
theorem xl_str {wr : World} {r : Nat} {ao : Option Addr} {N cap : Nat} {zs : List Int} {pos : Nat} {err : Int} (h : C.RInv wr r ao N cap zs pos err) (hg : ∀ g, ao = some ⟨g, 0, none⟩ → g < wr.heap.size) (hz : zs.length ≤ 16777216) (L : List ByteArray) (P : Nat) (E : Int) (hL : liS zs (txS zs) pos err = (L, P, E)) :
    Calls Tryz.prog 154 #[.pointer (some ⟨r, 0, none⟩), .func (.func 155) #[] #[]] wr fun e w' => ∃ a c, e = .returned (.slice a L.length c) ∧ GS w' (.slice a L.length c) L ∧ (∀ k, (Value.slice a L.length c).ownBlock = some k → wr.heap.size ≤ k) ∧ C.RInv w' r ao N cap zs P E ∧ C.ROnly wr w' r := by
  obtain ⟨n, p1, e1, hc⟩ : ∃ n p1 e1, ctS zs pos err = (n, p1, e1) := ⟨_, _, _, rfl⟩
  have HCT : Hid (ctS zs pos err = (n, p1, e1)) := hc
  have HLS : Hid (lsS (txS zs) n p1 e1 = (L, P, E)) := by show _ = _; rw [liS, hc] at hL; exact hL
  have HZ : Hid (zs.length ≤ 16777216) := hz
  have HRD : Hid (Rd1 zs (txS zs) encS) := rd_tx h.row.1
  have HG : Hid (∀ g, ao = some ⟨g, 0, none⟩ → g < wr.heap.size) := hg
  have HI : Hid (C.RInv wr r ao N cap zs pos err) := h
  have HLR : Hid (r < wr.heap.size) := h.lt
  obtain ⟨ws, HWS⟩ : ∃ ws : World, Hid (ws = wr) := ⟨_, rfl⟩
  clear h hg hL hc hz
  go_enter Tryz.func154, Tryz.ntmps154
  go_wp2_with (go_at_call 192; refine (xct HI.out n p1 e1 HCT.out).mono ?_; rintro e w1 ⟨rfl, h1', o1'⟩; have h1 : Hid (C.RInv w1 r ao N cap zs p1 e1) := h1'; have o1 : Hid (C.ROnly ws w1 r) := (by rw [HWS.out]; exact o1'); clear h1' o1')
  go_loopw [5, 10] (fun v z wr => ∃ (k : Nat) (K : List ByteArray) (p : Nat) (e : Int), k ≤ n ∧ z = .int .i64 k ∧ K.length = k ∧ k ≤ p ∧ GS wr v K ∧ (∀ j, v.ownBlock = some j → ws.heap.size ≤ j) ∧ C.RInv wr r ao N cap zs p e ∧ C.ROnly ws wr r ∧ (K ++ (lsS (txS zs) (n - k) p e).1, (lsS (txS zs) (n - k) p e).2) = (L, P, E)) (fun _ z _ => n - (intOf z).toNat)
  case atStart => exact ⟨0, [], p1, e1, Nat.zero_le _, rfl, rfl, Nat.zero_le _, GS.nil _, (fun j hj => by simp [Value.ownBlock] at hj), h1.out, o1.out, HLS.out⟩
  case round =>
    clear h1 o1
    obtain ⟨k, K, p, e, hk, rfl, hKl, hkp, hS', hv', hR', hO', hF'⟩ := hrel
    obtain ⟨va, vc, rfl⟩ := gs_len hS'
    rw [hKl] at hS' hv'
    rw [hKl]
    have HKL : Hid (K.length = k ∧ k ≤ p) := ⟨hKl, hkp⟩
    have HPZ : Hid (p ≤ zs.length) := hR'.pos
    have HS : Hid (GS wr (.slice va k vc) K) := hS'
    have HV : Hid (∀ j, (Value.slice va k vc).ownBlock = some j → ws.heap.size ≤ j) := hv'
    have HR : Hid (C.RInv wr r ao N cap zs p e) := hR'
    have HO : Hid (C.ROnly ws wr r) := hO'
    have HF : Hid ((K ++ (lsS (txS zs) (n - k) p e).1, (lsS (txS zs) (n - k) p e).2) = (L, P, E)) := hF'
    have hkz : k ≤ 16777216 := by have := HZ.out; have := hR'.pos; omega
    have HTL : Hid (K.length ≤ 100000000) := by show _ ≤ _; omega
    clear hS' hv' hR' hO' hF' hKl hkp
    by_cases hlt : k < n
    · have klt : (k : Int) < (n : Int) := by omega
      obtain ⟨s, p', e', hR⟩ : ∃ s p' e', txS zs p e = (s, p', e') := ⟨_, _, _, rfl⟩
      have HRR : Hid (txS zs p e = (s, p', e')) := hR
      have HMO : Hid (p ≤ p' ∧ p' ≤ zs.length) := by have := HRD.out.mono p e HPZ.out; rw [hR] at this; exact this
      have HGO : Hid ((p' = p → K = L ∧ p' = P ∧ e' = E) ∧ (p' ≠ p → ((K ++ [s]) ++ (lsS (txS zs) (n - (k + 1)) p' e').1, (lsS (txS zs) (n - (k + 1)) p' e').2) = (L, P, E))) := ls_go HF.out hlt hR
      have ARd : Hid (∀ w', C.ROnly wr w' r → GS w' (.slice va k vc) K) := fun w' ho => HS.out.kept fun j hj => ho.block j (HS.out.lt j hj) (fun e => by have := HV.out j hj; have := HLR.out; have := HWS.out; subst this; omega)
      clear hR
      by_cases hpp : p' = p
      · obtain ⟨eL, eP, eE⟩ := HGO.out.1 hpp
        subst hpp
        have HEQ : Hid (K = L ∧ p' = P ∧ e' = E) := ⟨eL, eP, eE⟩
        clear eL eP eE
        have t1 : (((p' : Nat) : Int) == (p' : Int)) = true := by simp
        go_wp2_with (first
          | (go_at_call 193; guard_hyp HR : Hid (C.RInv wr r ao N cap zs p' e); refine (C.rat_any HR.out).mono ?_; rintro e w' ⟨rfl, rfl⟩; have HR0 : Hid (C.RInv wr r ao N cap zs p' _) := HR; clear HR)
          | (go_at_call 155; refine (xname HR0.out s p' e' HRR.out).mono ?_; rintro e w2 ⟨rfl, h2', o2'⟩; have h2 : Hid (C.RInv w2 r ao N cap zs p' e') := h2'; have o2 : Hid (C.ROnly ws w2 r) := HO.out.trans o2'; have S2 : Hid (GS w2 (.slice va k vc) K) := ARd.out w2 o2'; clear h2' o2')
          | (go_at_call 193; refine (C.rat_any h2.out).mono ?_; rintro e w' ⟨rfl, rfl⟩))
        go_ret
        have hws := HWS.out
        subst hws
        obtain ⟨rfl, rfl, rfl⟩ := HEQ.out
        have hkl := HKL.out.1
        subst hkl
        exact ⟨va, vc, rfl, S2.out, HV.out, h2.out, o2.out⟩
      · have t1 : (((p' : Nat) : Int) == (p : Int)) = false := by simp only [beq_eq_false_iff_ne, ne_eq]; omega
        go_wp2_with (first
          | (go_at_call 193; guard_hyp HR : Hid (C.RInv wr r ao N cap zs p e); refine (C.rat_any HR.out).mono ?_; rintro e w' ⟨rfl, rfl⟩; have HR0 : Hid (C.RInv wr r ao N cap zs p _) := HR; clear HR)
          | (go_at_call 155; refine (xname HR0.out s p' e' HRR.out).mono ?_; rintro e w2 ⟨rfl, h2', o2'⟩; have h2 : Hid (C.RInv w2 r ao N cap zs p' e') := h2'; have o2 : Hid (C.ROnly ws w2 r) := HO.out.trans o2'; have S2 : Hid (GS w2 (.slice va k vc) K) := ARd.out w2 o2'; clear h2' o2')
          | (go_at_call 193; refine (C.rat_any h2.out).mono ?_; rintro e w' ⟨rfl, rfl⟩)
          | (at_builtin; refine wpList_gs_append_w rfl _ _ rfl _ K rfl (S2.out.later (below_alloc w2 _)) w2.heap.size 1 s rfl (by simp) HTL.out ?_; intro a4 n4 c4 w4 ho4 hg4))
        go_roundw
        case rel =>
          have hsz : ws.heap.size ≤ w2.heap.size := o2.out.size
          have hb1 : Below w2.heap.size w2 (w2.alloc (.cells #[.string s] 9)) := below_alloc w2 _
          have hb2 : Below ws.heap.size (w2.alloc (.cells #[.string s] 9)) w4 := (Below.refl _ _).grown hg4.grown (Nat.le_trans hsz hb1.size) HV.out
          have hb3 : Below ws.heap.size w2 w4 := (hb1.mono hsz).trans hb2
          have hws := HWS.out
          have hmo := HMO.out
          have hkl := HKL.out
          refine ⟨k + 1, K ++ [s], p', e', by omega, by go_num, by simp [hkl.1], by omega, ho4, ?_, ?_, ro_then o2.out hb3, HGO.out.2 hpp⟩
          · intro j hj
            rcases hg4.moved with e | ⟨z, e, hz⟩
            · exact HV.out j (e ▸ hj)
            · rw [hj] at e; have := Option.some.inj e; have := hb1.size; omega
          · exact rinv_kept2 h2.out (hb3.block r (by rw [hws]; exact HLR.out)) (fun g eg => hb3.block g (by rw [hws]; exact HG.out g eg))
        case measure => simp [intOf]; omega
    · obtain rfl : k = n := by omega
      obtain ⟨eL, eP, eE⟩ := ls_end HF.out
      have HEQ : Hid (K = L ∧ p = P ∧ e = E) := ⟨eL, eP, eE⟩
      clear eL eP eE
      go_wp2
      go_ret
      have hws := HWS.out
      subst hws
      obtain ⟨rfl, rfl, rfl⟩ := HEQ.out
      have hkl := HKL.out.1
      subst hkl
      exact ⟨va, vc, rfl, HS.out, HV.out, HR.out, HO.out⟩
set_option maxRecDepth 100000 in
set_option maxHeartbeats 4000000 in
theorem xl_int {wr : World} {r : Nat} {ao : Option Addr} {N cap : Nat} {zs : List Int} {pos : Nat} {err : Int} (h : C.RInv wr r ao N cap zs pos err) (hg : ∀ g, ao = some ⟨g, 0, none⟩ → g < wr.heap.size) (hz : zs.length ≤ 16777216) (L : List Int) (P : Nat) (E : Int) (hL : liS zs (itS zs) pos err = (L, P, E)) :
    Calls Tryz.prog 200 #[.pointer (some ⟨r, 0, none⟩), .func (.func 201) #[] #[]] wr fun e w' => ∃ a c, e = .returned (.slice a L.length c) ∧ IL w' (.slice a L.length c) L ∧ (∀ k, (Value.slice a L.length c).ownBlock = some k → wr.heap.size ≤ k) ∧ C.RInv w' r ao N cap zs P E ∧ C.ROnly wr w' r := by
  obtain ⟨n, p1, e1, hc⟩ : ∃ n p1 e1, ctS zs pos err = (n, p1, e1) := ⟨_, _, _, rfl⟩
  have HCT : Hid (ctS zs pos err = (n, p1, e1)) := hc
  have HLS : Hid (lsS (itS zs) n p1 e1 = (L, P, E)) := by show _ = _; rw [liS, hc] at hL; exact hL
  have HZ : Hid (zs.length ≤ 16777216) := hz
  have HRD : Hid (Rd1 zs (itS zs) encI) := rd_in h.row.1
  have HG : Hid (∀ g, ao = some ⟨g, 0, none⟩ → g < wr.heap.size) := hg
  have HI : Hid (C.RInv wr r ao N cap zs pos err) := h
  have HLR : Hid (r < wr.heap.size) := h.lt
  obtain ⟨ws, HWS⟩ : ∃ ws : World, Hid (ws = wr) := ⟨_, rfl⟩
  clear h hg hL hc hz
  go_enter Tryz.func200, Tryz.ntmps200
  go_wp2_with (go_at_call 192; refine (xct HI.out n p1 e1 HCT.out).mono ?_; rintro e w1 ⟨rfl, h1', o1'⟩; have h1 : Hid (C.RInv w1 r ao N cap zs p1 e1) := h1'; have o1 : Hid (C.ROnly ws w1 r) := (by rw [HWS.out]; exact o1'); clear h1' o1')
  go_loopw [5, 10] (fun v z wr => ∃ (k : Nat) (K : List Int) (p : Nat) (e : Int), k ≤ n ∧ z = .int .i64 k ∧ K.length = k ∧ k ≤ p ∧ IL wr v K ∧ (∀ j, v.ownBlock = some j → ws.heap.size ≤ j) ∧ C.RInv wr r ao N cap zs p e ∧ C.ROnly ws wr r ∧ (K ++ (lsS (itS zs) (n - k) p e).1, (lsS (itS zs) (n - k) p e).2) = (L, P, E)) (fun _ z _ => n - (intOf z).toNat)
  case atStart => exact ⟨0, [], p1, e1, Nat.zero_le _, rfl, rfl, Nat.zero_le _, IL.nil _, (fun j hj => by simp [Value.ownBlock] at hj), h1.out, o1.out, HLS.out⟩
  case round =>
    clear h1 o1
    obtain ⟨k, K, p, e, hk, rfl, hKl, hkp, hS', hv', hR', hO', hF'⟩ := hrel
    obtain ⟨va, vc, rfl⟩ := il_len hS'
    rw [hKl] at hS' hv'
    rw [hKl]
    have HKL : Hid (K.length = k ∧ k ≤ p) := ⟨hKl, hkp⟩
    have HPZ : Hid (p ≤ zs.length) := hR'.pos
    have HS : Hid (IL wr (.slice va k vc) K) := hS'
    have HV : Hid (∀ j, (Value.slice va k vc).ownBlock = some j → ws.heap.size ≤ j) := hv'
    have HR : Hid (C.RInv wr r ao N cap zs p e) := hR'
    have HO : Hid (C.ROnly ws wr r) := hO'
    have HF : Hid ((K ++ (lsS (itS zs) (n - k) p e).1, (lsS (itS zs) (n - k) p e).2) = (L, P, E)) := hF'
    have hkz : k ≤ 16777216 := by have := HZ.out; have := hR'.pos; omega
    have HTL : Hid (K.length ≤ 100000000) := by show _ ≤ _; omega
    clear hS' hv' hR' hO' hF' hKl hkp
    by_cases hlt : k < n
    · have klt : (k : Int) < (n : Int) := by omega
      obtain ⟨s, p', e', hR⟩ : ∃ s p' e', itS zs p e = (s, p', e') := ⟨_, _, _, rfl⟩
      have HRR : Hid (itS zs p e = (s, p', e')) := hR
      have HMO : Hid (p ≤ p' ∧ p' ≤ zs.length) := by have := HRD.out.mono p e HPZ.out; rw [hR] at this; exact this
      have HGO : Hid ((p' = p → K = L ∧ p' = P ∧ e' = E) ∧ (p' ≠ p → ((K ++ [s]) ++ (lsS (itS zs) (n - (k + 1)) p' e').1, (lsS (itS zs) (n - (k + 1)) p' e').2) = (L, P, E))) := ls_go HF.out hlt hR
      have ARd : Hid (∀ w', C.ROnly wr w' r → IL w' (.slice va k vc) K) := fun w' ho => HS.out.kept fun j hj => ho.block j (HS.out.lt j hj) (fun e => by have := HV.out j hj; have := HLR.out; have := HWS.out; subst this; omega)
      clear hR
      by_cases hpp : p' = p
      · obtain ⟨eL, eP, eE⟩ := HGO.out.1 hpp
        subst hpp
        have HEQ : Hid (K = L ∧ p' = P ∧ e' = E) := ⟨eL, eP, eE⟩
        clear eL eP eE
        have t1 : (((p' : Nat) : Int) == (p' : Int)) = true := by simp
        go_wp2_with (first
          | (go_at_call 193; guard_hyp HR : Hid (C.RInv wr r ao N cap zs p' e); refine (C.rat_any HR.out).mono ?_; rintro e w' ⟨rfl, rfl⟩; have HR0 : Hid (C.RInv wr r ao N cap zs p' _) := HR; clear HR)
          | (go_at_call 201; refine (xnum HR0.out s p' e' HRR.out).mono ?_; rintro e w2 ⟨rfl, h2', o2'⟩; have h2 : Hid (C.RInv w2 r ao N cap zs p' e') := h2'; have o2 : Hid (C.ROnly ws w2 r) := HO.out.trans o2'; have S2 : Hid (IL w2 (.slice va k vc) K) := ARd.out w2 o2'; clear h2' o2')
          | (go_at_call 193; refine (C.rat_any h2.out).mono ?_; rintro e w' ⟨rfl, rfl⟩))
        go_ret
        have hws := HWS.out
        subst hws
        obtain ⟨rfl, rfl, rfl⟩ := HEQ.out
        have hkl := HKL.out.1
        subst hkl
        exact ⟨va, vc, rfl, S2.out, HV.out, h2.out, o2.out⟩
      · have t1 : (((p' : Nat) : Int) == (p : Int)) = false := by simp only [beq_eq_false_iff_ne, ne_eq]; omega
        go_wp2_with (first
          | (go_at_call 193; guard_hyp HR : Hid (C.RInv wr r ao N cap zs p e); refine (C.rat_any HR.out).mono ?_; rintro e w' ⟨rfl, rfl⟩; have HR0 : Hid (C.RInv wr r ao N cap zs p _) := HR; clear HR)
          | (go_at_call 201; refine (xnum HR0.out s p' e' HRR.out).mono ?_; rintro e w2 ⟨rfl, h2', o2'⟩; have h2 : Hid (C.RInv w2 r ao N cap zs p' e') := h2'; have o2 : Hid (C.ROnly ws w2 r) := HO.out.trans o2'; have S2 : Hid (IL w2 (.slice va k vc) K) := ARd.out w2 o2'; clear h2' o2')
          | (go_at_call 193; refine (C.rat_any h2.out).mono ?_; rintro e w' ⟨rfl, rfl⟩)
          | (at_builtin; refine wpList_il_append_w rfl _ _ rfl _ K rfl (S2.out.later (below_alloc w2 _)) w2.heap.size 1 s rfl (by simp) HTL.out ?_; intro a4 n4 c4 w4 ho4 hg4))
        go_roundw
        case rel =>
          have hsz : ws.heap.size ≤ w2.heap.size := o2.out.size
          have hb1 : Below w2.heap.size w2 (w2.alloc (.cells #[.int .i64 s] 3)) := below_alloc w2 _
          have hb2 : Below ws.heap.size (w2.alloc (.cells #[.int .i64 s] 3)) w4 := (Below.refl _ _).grown hg4.grown (Nat.le_trans hsz hb1.size) HV.out
          have hb3 : Below ws.heap.size w2 w4 := (hb1.mono hsz).trans hb2
          have hws := HWS.out
          have hmo := HMO.out
          have hkl := HKL.out
          refine ⟨k + 1, K ++ [s], p', e', by omega, by go_num, by simp [hkl.1], by omega, ho4, ?_, ?_, ro_then o2.out hb3, HGO.out.2 hpp⟩
          · intro j hj
            rcases hg4.moved with e | ⟨z, e, hz⟩
            · exact HV.out j (e ▸ hj)
            · rw [hj] at e; have := Option.some.inj e; have := hb1.size; omega
          · exact rinv_kept2 h2.out (hb3.block r (by rw [hws]; exact HLR.out)) (fun g eg => hb3.block g (by rw [hws]; exact HG.out g eg))
        case measure => simp [intOf]; omega
    · obtain rfl : k = n := by omega
      obtain ⟨eL, eP, eE⟩ := ls_end HF.out
      have HEQ : Hid (K = L ∧ p = P ∧ e = E) := ⟨eL, eP, eE⟩
      clear eL eP eE
      go_wp2
      go_ret
      have hws := HWS.out
      subst hws
      obtain ⟨rfl, rfl, rfl⟩ := HEQ.out
      have hkl := HKL.out.1
      subst hkl
      exact ⟨va, vc, rfl, HS.out, HV.out, HR.out, HO.out⟩
end Go.Proofs.YtmkakdfdfdcncaaGreatDoor
