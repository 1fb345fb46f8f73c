import Derived.Test.YtobhemaikomdaaaGreatDoorPTAToTE9
import Derived.Test.YtobhemaikomdaaaGreatDoorPTE6
import Derived.Test.YtobhemaikomdaaaGreatDoorPTS1ToTS3
import Derived.Test.YtobhemaikomdaaaGreatDoorPTD3ToTSm
import Derived.Test.YtobhemaikomdaaaGreatDoorPTW8ToTS4
namespace Go.Proofs.YtobhemaikomdaaaGreatDoor
set_option linter.unusedVariables false
open Go.RowKit
theorem enc_ok {t : TV} (h : (encU t).2 = 0) : encU t = (C.frame 3 (encT t), 0) /\ CdT t /\ (encT t).length <= 16777216 /\ decU (C.frame 3 (encT t)) = (some (cln t), 0, 0) := by
 unfold encU at h ⊢
 by_cases h0 : fcT t = 0
 ·rw [if_neg (by simpa using h0)] at h ⊢
  have hc := cd_all (zero_fc h0)
  by_cases h1 : 16777216 < lsA t
  ·rw [if_pos h1] at h; cases h
  ·rw [if_neg h1] at h ⊢
   dsimp only at h
   unfold sealE at h ⊢
   unfold sealB
   by_cases h2 : 16777216 < (encT t).length
   ·rw [if_pos h2] at h; cases h
   ·rw [if_neg h2, if_neg h2]
    refine ⟨rfl, hc, by omega, ?_⟩
    have hd := dec_enc hc (by omega) ((encT t).length + 2) (by have := sz_enc t; omega)
    unfold decU
    rw [C.open_frame 3 (encT t) (by omega)]
    dsimp only
    rw [if_neg (by simp), hd]
    dsimp only
    have e : C.endS (encT t) (encT t).length 0 = (0, 0) := by
     unfold C.endS
     rw [if_neg (by simp), if_neg (by omega)]
    rw [e, if_neg (by simp)]
    rfl
 ·rw [if_pos h0] at h; exact absurd h h0
theorem ls_enc (t : TV) : CdT t -> lsA t <= (encT t).length := by
 intro h
 have := all_cd t h
 unfold encT lsA
 generalize preT t = l at *
 induction l with
 | nil => exact Nat.le_refl _
 | cons a l ih =>
  rw [List.map_cons, List.sum_cons, List.flatMap_cons, List.length_append]
  have h1 := ih fun x hx => this x (List.mem_cons_of_mem _ hx)
  have h2 : lsZ a <= (plB a).length := by
   have q := enc_posT (a.prod + 1)
   unfold plB lsZ
   rw [List.length_append]
   by_cases hp : a.prod = -1
   ·rw [if_pos hp, if_pos hp, List.length_append]
    have q2 := enc_posT (C.foldS a.kind)
    have q3 := enc_posT (a.tx.size : Int)
    unfold encS
    rw [List.length_append, C.strBytes_len]
    omega
   ·rw [if_neg hp, if_neg hp]
    have q2 := enc_posT (a.kids.length : Int)
    omega
  omega
theorem enc_of {t : TV} (h : CdT t) (hl : (encT t).length <= 16777216) : encU t = (C.frame 3 (encT t), 0) := by
 have := ls_enc t h
 unfold encU
 rw [if_neg (by rw [fc_zero (all_cd t h)]; simp), if_neg (by omega), sealB, sealE, if_neg (by omega), if_neg (by omega)]
theorem frame_leT (k : Int) (xs : List Int) : (C.frame k xs).length <= xs.length + 100 := by
 have := C.enc_len 10 (xs.length : Int)
 simp [C.frame, C.lead, C.headBytes, C.sumBytes]
 omega
section
variable {w : World} {t : TV} {xs : List Int}
theorem encOk_W (he : (encU t).2 = 0) {w' : World} (ht : TAt w' t) (hw : wtT t <= 100000000) (hm : C.Magic w') : Calls Tryz.prog 11 #[t.val] w' fun e w'' => ∃ a c, e = .returned (.tuple #[.slice a (C.frame 3 (encT t)).length c, .int .i64 0]) /\ C.RowAt w'' a (C.frame 3 (encT t)) /\ (C.frame 3 (encT t)).length <= c /\ Below w'.heap.size w' w'' := (enc_W ht hw hm).mono fun e w'' ⟨h1, a, N, c, h2, h3⟩ => by
 obtain ⟨k1, -⟩ := enc_ok he
 rw [k1] at h2 h3
 obtain ⟨a', c', e1, e2, e3⟩ := C.Own.row h3
 have e4 := C.own_len h3
 simp only [Value.slice.injEq] at e1
 obtain ⟨rfl, rfl, rfl⟩ := e1
 exact ⟨_, _, h2, e3, C.own_cap h3, h1⟩
theorem decOk_W {w' : World} {a : Option Addr} {c : Nat} {u : TV} (hd : decU xs = (some u, 0, 0)) (hl : xs.length <= 140737488355328) (hr : C.RowAt w' a xs) (hc : xs.length <= c) (hm : C.Magic w') : Calls Tryz.prog 12 #[.slice a xs.length c] w' fun e w'' => ∃ u', e = .returned (.tuple #[u'.val, .int .i64 0, .int .i64 0]) /\ samV u' u /\ TAt w'' u' /\ Below w'.heap.size w' w'' := (dec_W rfl hl hc hr hm).mono fun e w'' ⟨h1, h2⟩ => by
 unfold dcE at h2
 rw [hd] at h2
 obtain ⟨u', k1, k2, k3⟩ := h2
 exact ⟨u', k3, k1, k2.ta, h1⟩
structure TyS (w : World) (t u : TV) (bu : Nat) (w' : World) : Prop where
 bel : Below w.heap.size w w'
 tb : w'.heap[w.heap.size]? = some (tBox t)
 ub : w'.heap[bu]? = some (tBox u)
 ua : TAt w' u
theorem TyS.later {u : TV} {bu : Nat} {w' w'' : World} (h : TyS w t u bu w') (hb : Below w'.heap.size w' w'') : TyS w t u bu w'' := ⟨h.bel.trans (hb.mono h.bel.size), (hb.block _ (lt_of_block h.tb)).trans h.tb, (hb.block _ (lt_of_block h.ub)).trans h.ub, h.ua.later hb⟩
end
end Go.Proofs.YtobhemaikomdaaaGreatDoor
