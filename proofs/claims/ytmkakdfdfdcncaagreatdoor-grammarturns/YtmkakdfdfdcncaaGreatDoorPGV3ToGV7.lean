import Derived.Test.YtmkakdfdfdcncaaGreatDoorPGT14ToGT18
import Derived.Test.YtmkakdfdfdcncaaGreatDoorPGV6
namespace Go.Proofs.YtmkakdfdfdcncaaGreatDoor
set_option linter.unusedVariables false
set_option maxRecDepth 100000
set_option maxHeartbeats 16000000
open Go.RowKit
def permU (l : List Int) : Int := if (l.any fun n => outU l.length n) = true then 4 else if risesU (sortU l) = false then 6 else 0
theorem perm_out {l : List Int} (h : (l.any fun n => outU l.length n) = true) : permU l = 4 := if_pos h
theorem perm_two {l : List Int} (h : (l.any fun n => outU l.length n) = false) {i j : Nat} (hi : i < l.length) (hj : j < i) (e : l.getD j 0 = l.getD i 0) : permU l = 6 := by
 unfold permU
 rw [if_neg (by simp [h]), if_pos]
 rw [rises_sort, decide_eq_false_iff_not, List.nodup_iff_pairwise_ne, List.pairwise_iff_getElem]
 intro hn
 have := hn j i (by omega) hi hj
 simp [List.getD, hi, show j < l.length by omega] at e
 exact this e
theorem perm_ok {l : List Int} (h : (l.any fun n => outU l.length n) = false) (hn : ∀ i j, i < l.length -> j < i -> l.getD j 0 ≠ l.getD i 0) : permU l = 0 := by
 unfold permU
 rw [if_neg (by simp [h]), if_neg]
 rw [rises_sort]
 have : l.Nodup := by
  rw [List.nodup_iff_pairwise_ne, List.pairwise_iff_getElem]
  intro i j hi hj hij
  have := hn j i hj hij
  simpa [List.getD, hi, hj] using this
 simp [this]
set_option linter.unusedSimpArgs false in
theorem perm_G (ao : Option Addr) (cap : Nat) (l : List Int) (w : World) (p : Int) (hp : permU l = p) (hl : l.length <= 1048576) (hr : InRow w ao l) :
  Calls Tryz.prog 49 #[.slice ao l.length cap, .int .i64 (l.length : Int)] w fun e w' => e = .returned (.int .i64 p) /\ Below w.heap.size w w' := by
 have HR : Hid (InRow w ao l) := hr
 have HP : Hid (permU l = p) := hp
 clear hr hp
 go_enter Tryz.func49, Tryz.ntmps49
 go_wp2
 go_loopw [5] (fun z wr => ∃ k : Nat, k <= l.length /\ z = .int .i64 k /\ Below w.heap.size w wr /\ Hid (∀ j, j < k -> outU l.length (l.getD j 0) = false)) (fun z _ => l.length - (intOf z).toNat)
 case atStart => exact ⟨0, Nat.zero_le _, rfl, by go_grown, fun j hj => absurd hj (Nat.not_lt_zero _)⟩
 case round =>
  obtain ⟨k, hk, rfl, hb, HA⟩ := hrel
  by_cases hlt : k < l.length
  ·obtain ⟨b, off, rfl, _, hc⟩ := (HR.out.later hb) (by intro e; rw [e] at hlt; simp at hlt)
   have c0 := hc k hlt
   have HIT : Hid (outU l.length (l.getD k 0) = true -> (l.any fun n => outU l.length n) = true) := fun e => any_hit (d := 0) hlt e
   have HST : Hid (outU l.length (l.getD k 0) = false -> ∀ j, j < k + 1 -> outU l.length (l.getD j 0) = false) := fun e j hj => by
    rcases Nat.lt_succ_iff_lt_or_eq.1 hj with r | rfl
    ·exact HA.out j r
    ·exact e
   clear hc HA
   generalize l.getD k 0 = n at *
   by_cases h0 : n < 0
   ·have HX : Hid _ := perm_out (HIT.out (by simp [outU, h0]))
    clear HIT HST
    go_wp2
    go_ret
    exact ⟨by rw [<- HP.out, HX.out]; rfl, by go_grown⟩
   ·by_cases h1 : (l.length : Int) <= n
    ·have HX : Hid _ := perm_out (HIT.out (by simp [outU, h1]))
     clear HIT HST
     go_wp2
     go_ret
     exact ⟨by rw [<- HP.out, HX.out]; rfl, by go_grown⟩
    ·have HX : Hid _ := HST.out (by simp [outU]; omega)
     clear HIT HST
     go_wp2
     go_roundw
     case rel => exact ⟨k + 1, by omega, by go_num, by go_grown, HX.out⟩
     case measure => simp [intOf]; omega
  ·obtain rfl : k = l.length := by omega
   have HN : Hid ((l.any fun n => outU l.length n) = false) := any_none 0 fun j hj => HA.out j hj
   have HB : Hid (Below w.heap.size w wr) := hb
   clear HA hb
   go_wp2
   go_loopw [6] (fun z wr => ∃ i : Nat, i <= l.length /\ z = .int .i64 i /\ Below w.heap.size w wr /\ Hid (∀ i' j, i' < i -> j < i' -> l.getD j 0 ≠ l.getD i' 0)) (fun z _ => l.length - (intOf z).toNat)
   case atStart => exact ⟨0, Nat.zero_le _, rfl, HB.out, fun i' j hi => absurd hi (Nat.not_lt_zero _)⟩
   case round =>
    obtain ⟨i, hi, rfl, hb2, HA2⟩ := hrel
    have HB2 : Hid (Below w.heap.size w wr) := hb2
    clear hb2 HB
    by_cases hlt2 : i < l.length
    ·go_wp2
     go_loopw [7] (fun z wr => ∃ j : Nat, j <= i /\ z = .int .i64 j /\ Below w.heap.size w wr /\ Hid (∀ j', j' < j -> l.getD j' 0 ≠ l.getD i 0)) (fun z _ => i - (intOf z).toNat)
     case atStart => exact ⟨0, Nat.zero_le _, rfl, HB2.out, fun j' hj => absurd hj (Nat.not_lt_zero _)⟩
     case round =>
      clear HB2
      obtain ⟨j, hj, rfl, hb3, HA3⟩ := hrel
      by_cases hlt3 : j < i
      ·obtain ⟨b, off, rfl, _, hc⟩ := (HR.out.later hb3) (by intro e; rw [e] at hlt2; simp at hlt2)
       have hs0 : Hid (((fun w' => w'.cell? ⟨b, off + j, none⟩ = some (.int .i64 (l.getD j 0)) /\ w'.cell? ⟨b, off + i, none⟩ = some (.int .i64 (l.getD i 0)))) wr.drew) := ⟨hc j (by omega), hc i hlt2⟩
       have HIT : Hid (l.getD j 0 = l.getD i 0 -> permU l = 6) := fun e => perm_two HN.out hlt2 hlt3 e
       have HST : Hid (l.getD j 0 ≠ l.getD i 0 -> ∀ j', j' < j + 1 -> l.getD j' 0 ≠ l.getD i 0) := fun e j' hj' => by
        rcases Nat.lt_succ_iff_lt_or_eq.1 hj' with r | rfl
        ·exact HA3.out j' r
        ·exact e
       have HB3 : Hid (Below w.heap.size w wr) := hb3
       clear hc HA3 hb3
       have hil : (i : Int) < l.length := by omega
       have hjl : (j : Int) < l.length := by omega
       generalize l.getD j 0 = x at *
       generalize l.getD i 0 = y at *
       by_cases he : x = y
       ·subst he
        have HX : Hid _ := HIT.out rfl
        clear HIT HST
        go_wp2
        refine wp_region_x (S := fun _ => (fun w' => w'.cell? ⟨b, off + j, none⟩ = some (.int .i64 x) /\ w'.cell? ⟨b, off + i, none⟩ = some (.int .i64 x))) (by kernel_rfl) ?_
        refine wtC (i := 0) (v := ?_) rfl (Or.inl ⟨by rfl, ?_⟩) hs0.out ?_
        rotate_left
        ·(intro w hSw; (try dsimp only at hSw); go_simp; try (with_reducible rfl))
        (try simp only [Act.put, lsA, lsZ, lsN])
        refine wtC (i := 1) (v := ?_) rfl (Or.inl ⟨by rfl, ?_⟩) hs0.out ?_
        rotate_left
        ·(intro w hSw; (try dsimp only at hSw); go_simp; try (with_reducible rfl))
        (try simp only [Act.put, lsA, lsZ, lsN])
        refine wtC (i := 2) (v := ?_) rfl (Or.inl ⟨by rfl, ?_⟩) hs0.out ?_
        rotate_left
        ·(intro w hSw; (try dsimp only at hSw); go_simp; try (with_reducible rfl))
        (try simp only [Act.put, lsA, lsZ, lsN])
        refine wtC (i := 3) (v := ?_) rfl (Or.inl ⟨by rfl, ?_⟩) hs0.out ?_
        rotate_left
        ·(intro w hSw; (try dsimp only at hSw); go_simp; try (with_reducible rfl))
        (try simp only [Act.put, lsA, lsZ, lsN])
        refine wtC (i := 4) (v := ?_) rfl (Or.inl ⟨by rfl, ?_⟩) hs0.out ?_
        rotate_left
        ·(intro w hSw; (try dsimp only at hSw); go_simp; try (with_reducible rfl))
        (try simp only [Act.put, lsA, lsZ, lsN])
        refine wtC (i := 5) (v := ?_) rfl (Or.inl ⟨by rfl, ?_⟩) hs0.out ?_
        rotate_left
        ·(intro w hSw; (try dsimp only at hSw); go_simp; try (with_reducible rfl))
        (try simp only [Act.put, lsA, lsZ, lsN])
        refine wtC (i := 6) (v := ?_) rfl (Or.inl ⟨by rfl, ?_⟩) hs0.out ?_
        rotate_left
        ·(intro w hSw; (try dsimp only at hSw); go_simp; try (with_reducible rfl))
        (try simp only [Act.put, lsA, lsZ, lsN])
        refine wtC (i := 7) (v := ?_) rfl (Or.inl ⟨by rfl, ?_⟩) hs0.out ?_
        rotate_left
        ·(intro w hSw; (try dsimp only at hSw); go_simp; try (with_reducible rfl))
        (try simp only [Act.put, lsA, lsZ, lsN])
        refine wtC (i := 8) (v := ?_) rfl (Or.inl ⟨by rfl, ?_⟩) hs0.out ?_
        rotate_left
        ·(intro w hSw; (try dsimp only at hSw); go_simp; try (with_reducible rfl))
        (try simp only [Act.put, lsA, lsZ, lsN])
        refine wpAnyX_done (by decide +kernel) ?_
        go_wp2
        go_ret
        exact ⟨by rw [<- HP.out, HX.out]; rfl, HB3.out.drew⟩
       ·have HX : Hid _ := HST.out he
        have hne : (x == y) = false := by simpa using he
        clear HIT HST
        go_wp2
        refine wp_region_x (S := fun _ => (fun w' => w'.cell? ⟨b, off + j, none⟩ = some (.int .i64 x) /\ w'.cell? ⟨b, off + i, none⟩ = some (.int .i64 y))) (by kernel_rfl) ?_
        refine wtC (i := 0) (v := ?_) rfl (Or.inl ⟨by rfl, ?_⟩) hs0.out ?_
        rotate_left
        ·(intro w hSw; (try dsimp only at hSw); go_simp; try (with_reducible rfl))
        (try simp only [Act.put, lsA, lsZ, lsN])
        refine wtC (i := 1) (v := ?_) rfl (Or.inl ⟨by rfl, ?_⟩) hs0.out ?_
        rotate_left
        ·(intro w hSw; (try dsimp only at hSw); go_simp; try (with_reducible rfl))
        (try simp only [Act.put, lsA, lsZ, lsN])
        refine wtC (i := 2) (v := ?_) rfl (Or.inl ⟨by rfl, ?_⟩) hs0.out ?_
        rotate_left
        ·(intro w hSw; (try dsimp only at hSw); go_simp; try (with_reducible rfl))
        (try simp only [Act.put, lsA, lsZ, lsN])
        refine wtC (i := 3) (v := ?_) rfl (Or.inl ⟨by rfl, ?_⟩) hs0.out ?_
        rotate_left
        ·(intro w hSw; (try dsimp only at hSw); go_simp; try (with_reducible rfl))
        (try simp only [Act.put, lsA, lsZ, lsN])
        refine wtC (i := 4) (v := ?_) rfl (Or.inl ⟨by rfl, ?_⟩) hs0.out ?_
        rotate_left
        ·(intro w hSw; (try dsimp only at hSw); go_simp; try (with_reducible rfl))
        (try simp only [Act.put, lsA, lsZ, lsN])
        refine wtC (i := 5) (v := ?_) rfl (Or.inl ⟨by rfl, ?_⟩) hs0.out ?_
        rotate_left
        ·(intro w hSw; (try dsimp only at hSw); go_simp; try (with_reducible rfl))
        (try simp only [Act.put, lsA, lsZ, lsN])
        refine wtC (i := 6) (v := ?_) rfl (Or.inl ⟨by rfl, ?_⟩) hs0.out ?_
        rotate_left
        ·(intro w hSw; (try dsimp only at hSw); go_simp; try (with_reducible rfl))
        (try simp only [Act.put, lsA, lsZ, lsN])
        refine wtC (i := 7) (v := ?_) rfl (Or.inl ⟨by rfl, ?_⟩) hs0.out ?_
        rotate_left
        ·(intro w hSw; (try dsimp only at hSw); go_simp; try (with_reducible rfl))
        (try simp only [Act.put, lsA, lsZ, lsN])
        refine wtC (i := 8) (v := ?_) rfl (Or.inl ⟨by rfl, ?_⟩) hs0.out ?_
        rotate_left
        ·(intro w hSw; (try dsimp only at hSw); go_simp; try (with_reducible rfl))
        (try simp only [Act.put, lsA, lsZ, lsN])
        refine wpAnyX_done (by decide +kernel) ?_
        go_wp2
        go_roundw
        case rel => exact ⟨j + 1, by omega, by go_num, HB3.out.drew, HX.out⟩
        case measure => simp [intOf]; omega
      ·obtain rfl : j = i := by omega
       have HNX : Hid (∀ i' j', i' < j + 1 -> j' < i' -> l.getD j' 0 ≠ l.getD i' 0) := fun i' j' hi' hj' => by
        rcases Nat.lt_succ_iff_lt_or_eq.1 hi' with r | rfl
        ·exact HA2.out i' j' r hj'
        ·exact HA3.out j' hj'
       have HB3 : Hid (Below w.heap.size w wr) := hb3
       clear HA3 HA2 hb3
       go_wp2
       go_roundw
       case rel => exact ⟨j + 1, by omega, by go_num, HB3.out, HNX.out⟩
       case measure => simp [intOf]; omega
    ·obtain rfl : i = l.length := by omega
     have HX : Hid (permU l = 0) := perm_ok HN.out HA2.out
     clear HA2
     go_wp2
     go_ret
     exact ⟨by rw [<- HP.out, HX.out]; rfl, HB2.out⟩
theorem riseU_len (l : List Int) (k : Nat) : (riseU l k).length <= l.length := by
 rw [(riseU_perm l k).length_eq]
 exact List.length_filter_le _ _
theorem rise_step (l : List Int) (k : Int) (i : Nat) (hi : i < l.length) : (l.take (i + 1)).filter (fun y => y == k) = (l.take i).filter (fun y => y == k) ++ if l.getD i 0 = k then [l.getD i 0] else [] := by
 rw [List.take_succ_eq_append_getElem hi, List.filter_append]
 have e : l.getD i 0 = l[i] := by simp [List.getD, hi]
 rw [e]
 by_cases h : l[i] = k
 ·rw [if_pos h]; simp [h]
 ·rw [if_neg h]; simp [h]
theorem rise_G (ao : Option Addr) (cap : Nat) (l : List Int) (w : World) (hl : l.length <= 1000) (hr : InRow w ao l) :
  Calls Tryz.prog 50 #[.slice ao l.length cap] w fun e w' => ∃ v, e = .returned v /\ IL w' v (riseU l 64) /\ (∀ k, v.ownBlock = some k -> w.heap.size <= k) /\ Below w.heap.size w w' := by
 have HR : Hid (InRow w ao l) := hr
 clear hr
 go_enter Tryz.func50, Tryz.ntmps50
 go_wp2
 go_loopw [3, 4] (fun v z wr => ∃ k : Nat, k <= 64 /\ z = .int .i64 k /\ IL wr v (riseU l k) /\ (∀ j, v.ownBlock = some j -> w.heap.size <= j) /\ Below w.heap.size w wr) (fun _ z _ => 64 - (intOf z).toNat)
 case atStart => exact ⟨0, Nat.zero_le _, rfl, IL.nil _, fun j hj => by simp [Value.ownBlock] at hj, Below.refl _ _⟩
 case round =>
  obtain ⟨k, hk, rfl, hI, hlo, hb⟩ := hrel
  obtain ⟨va, vc, rfl⟩ := il_len hI
  have HI : Hid (IL wr (.slice va (riseU l k).length vc) (riseU l k) /\ (∀ j, (Value.slice va (riseU l k).length vc).ownBlock = some j -> w.heap.size <= j) /\ Below w.heap.size w wr) := ⟨hI, hlo, hb⟩
  clear hI hlo hb
  by_cases hlt : k < 64
  ·have klt : (k : Int) < 64 := by omega
   go_wp2
   go_loopw [3, 5] (fun v z wr => ∃ i : Nat, i <= l.length /\ z = .int .i64 i /\ IL wr v (riseU l k ++ (l.take i).filter fun y => y == (k : Int)) /\ (∀ j, v.ownBlock = some j -> w.heap.size <= j) /\ Below w.heap.size w wr) (fun _ z _ => l.length - (intOf z).toNat)
   case atStart => exact ⟨0, Nat.zero_le _, rfl, by simpa using HI.out.1, HI.out.2.1, HI.out.2.2⟩
   case round =>
    clear HI
    obtain ⟨i, hi, rfl, hI, hlo, hb⟩ := hrel
    obtain ⟨ua, uc, rfl⟩ := il_len hI
    by_cases hlt2 : i < l.length
    ·obtain ⟨b, off, rfl, _, hc⟩ := (HR.out.later hb) (by intro e; rw [e] at hlt2; simp at hlt2)
     have c0 := hc i hlt2
     have HS : Hid ((l.take (i + 1)).filter (fun y => y == (k : Int)) = (l.take i).filter (fun y => y == (k : Int)) ++ if l.getD i 0 = (k : Int) then [l.getD i 0] else []) := rise_step l k i hlt2
     have HLN : Hid ((riseU l k ++ (l.take i).filter fun y => y == (k : Int)).length <= 2000000) := by
      show _ <= _
      have h1 := riseU_len l k
      have h2 := List.length_filter_le (fun y => y == (k : Int)) (l.take i)
      rw [List.length_append]
      have h3 : (l.take i).length <= l.length := by simp; omega
      omega
     clear hc
     generalize hM : (riseU l k ++ (l.take i).filter fun y => y == (k : Int)) = M at *
     have HM : Hid ((riseU l k ++ (l.take i).filter fun y => y == (k : Int)) = M) := hM
     have HI : Hid (IL wr (.slice ua M.length uc) M /\ (∀ j, (Value.slice ua M.length uc).ownBlock = some j -> w.heap.size <= j) /\ Below w.heap.size w wr) := ⟨hI, hlo, hb⟩
     clear hM hI hlo hb
     generalize l.getD i 0 = n at *
     by_cases he : n = (k : Int)
     ·subst he
      have t1 : ((k : Int) == (k : Int)) = true := by simp
      go_wp2_with (at_builtin; refine wpList_il_append rfl _ _ rfl _ M rfl (HI.out.1.later (below_alloc _ _)) _ 1 (k : Int) rfl ((cellq_any (alloc_at _ _)).trans rfl) HLN.out ?_; intro a4 n4 c4 w4 ho4 hg4)
      go_roundw
      case rel =>
       refine ⟨i + 1, by omega, by go_num, ?_, fun j hj => ?_, ?_⟩
       ·rw [HS.out, if_pos rfl, <- List.append_assoc, HM.out]
        exact ho4
       ·rcases hg4.moved with e | ⟨z, e, hz⟩
        ·rw [e] at hj; exact HI.out.2.1 j hj
        ·rw [e] at hj; have := HI.out.2.2.size; simp at hj hz; omega
       ·have hba : Below w.heap.size w (wr.alloc (.cells #[.int .i64 (k : Int)] 3)) := HI.out.2.2.trans ((below_alloc _ _).mono HI.out.2.2.size)
        exact hba.grown hg4.grown hba.size (fun j hj => HI.out.2.1 j hj)
      case measure => simp [intOf]; omega
     ·have t1 : (n == (k : Int)) = false := by simpa using he
      go_wp2
      go_roundw
      case rel =>
       refine ⟨i + 1, by omega, by go_num, ?_, HI.out.2.1, HI.out.2.2⟩
       rw [HS.out, if_neg he, List.append_nil, HM.out]
       exact HI.out.1
      case measure => simp [intOf]; omega
    ·obtain rfl : i = l.length := by omega
     have HI : Hid (IL wr (.slice ua (riseU l k ++ (l.take l.length).filter fun y => y == (k : Int)).length uc) (riseU l (k + 1)) /\ (∀ j, (Value.slice ua (riseU l k ++ (l.take l.length).filter fun y => y == (k : Int)).length uc).ownBlock = some j -> w.heap.size <= j) /\ Below w.heap.size w wr) := ⟨by rw [List.take_length] at hI ⊢; exact hI, hlo, hb⟩
     clear hI hlo hb
     go_wp2
     go_roundw
     case rel => exact ⟨k + 1, by omega, by go_num, HI.out.1, HI.out.2.1, HI.out.2.2⟩
     case measure => simp [intOf]; omega
  ·obtain rfl : k = 64 := by omega
   go_wp2
   go_ret
   exact ⟨_, rfl, HI.out.1, HI.out.2.1, HI.out.2.2⟩
theorem refrenumber_no (g : GV) (a1 a2 : Option Addr) (n1 n2 c1 c2 : Nat) (w : World) (h : GAt 140737488355328 w g) (er : Int) (hE : (checkG g (checkF g.ts g.ns)).1 = er) (h0 : er ≠ 0) :
  Calls Tryz.prog 14 #[g.val, .slice a1 n1 c1, .slice a2 n2 c2] w fun e w' => e = .returned (.tuple #[.agg #[.slice none 0 0, .slice none 0 0, .int .i64 0, .slice none 0 0, .slice none 0 0], .int .i64 er]) /\ Below w.heap.size w w' := by
 have C0 : Hid (CBx w.heap.size w (gA g) ((w.alloc (.cells (gA g) 26)).alloc (.cells #[.slice none 0 0, .slice none 0 0, .int .i64 0, .slice none 0 0, .slice none 0 0] 26))) := cb_start g w
 have HGA : Hid (∀ w', Below w.heap.size w w' -> GAt 140737488355328 w' g /\ True) := fun w' hb => ⟨h.later hb, trivial⟩
 have he : (er != 0) = true := by simpa using h0
 have HC : Hid (∀ z, GAt 140737488355328 z g -> Calls Tryz.prog 27 #[g.val] z fun e w' => e = .returned (.int .i64 er) /\ Below z.heap.size z w') := fun z hz => by have := refmay_G g z hz; rw [hE] at this; exact this
 clear h hE h0
 go_enter Tryz.func14, Tryz.ntmps14
 go_wp2_with (first
  | (go_at_call 27; refine (HC.out _ (HGA.out _ C0.out.bel).1).mono ?_; rintro e w1 ⟨rfl, b1⟩; have C1 : Hid (CBx w.heap.size w (gA g) w1) := C0.out.later b1; have x0 : w1.cell? ⟨w.heap.size, 0, none⟩ = some (.slice g.ta g.ts.length g.tc) := (cellq_any C1.out.box).trans rfl; have x1 : w1.cell? ⟨w.heap.size, 1, none⟩ = some (.slice g.na g.ns.length g.nc) := (cellq_any C1.out.box).trans rfl; have r0 : w1.cell? ⟨w.heap.size + 1, 0, none⟩ = some (.slice none 0 0) := (cellq_any C1.out.out).trans rfl; have r1 : w1.cell? ⟨w.heap.size + 1, 1, none⟩ = some (.slice none 0 0) := (cellq_any C1.out.out).trans rfl; have r2 : w1.cell? ⟨w.heap.size + 1, 2, none⟩ = some (.int .i64 0) := (cellq_any C1.out.out).trans rfl; have r3 : w1.cell? ⟨w.heap.size + 1, 3, none⟩ = some (.slice none 0 0) := (cellq_any C1.out.out).trans rfl; have r4 : w1.cell? ⟨w.heap.size + 1, 4, none⟩ = some (.slice none 0 0) := (cellq_any C1.out.out).trans rfl; have y0 : w1.frozen? ⟨w.heap.size + 1, 0, none⟩ = false := (by unfold World.frozen?; rw [C1.out.out]; rfl); have y1 : w1.frozen? ⟨w.heap.size + 1, 1, none⟩ = false := (by unfold World.frozen?; rw [C1.out.out]; rfl); have y2 : w1.frozen? ⟨w.heap.size + 1, 2, none⟩ = false := (by unfold World.frozen?; rw [C1.out.out]; rfl); have y3 : w1.frozen? ⟨w.heap.size + 1, 3, none⟩ = false := (by unfold World.frozen?; rw [C1.out.out]; rfl); have y4 : w1.frozen? ⟨w.heap.size + 1, 4, none⟩ = false := (by unfold World.frozen?; rw [C1.out.out]; rfl); have hz : w.heap.size + 1 < w1.heap.size := lt_of_block C1.out.out; clear b1))
 refine bodyPost_ret (v := .tuple #[.agg #[.slice none 0 0, .slice none 0 0, .int .i64 0, .slice none 0 0, .slice none 0 0], .int .i64 er]) (by simp [results, Tryz.results14, go_sem, r0, r1, r2, r3, r4]) rfl ?_
 exact ⟨rfl, (C1.out.five _ _ _ _ _).1⟩
theorem permU_cases (l : List Int) : permU l = 4 ∨ permU l = 6 ∨ permU l = 0 := by
 unfold permU
 split
 ·exact .inl rfl
 ·split
  ·exact .inr (.inl rfl)
  ·exact .inr (.inr rfl)
theorem renU_perm {g : GV} {ts ns : List Int} (h1 : ts.length = g.ts.length) (h2 : ns.length = g.ns.length) : renU g ts ns = if permU ts = 4 ∨ permU ns = 4 then 4 else if permU ts ≠ 0 ∨ permU ns ≠ 0 then 6 else 0 := by
 unfold renU permU
 rw [if_neg (by omega)]
 cases (ts.any fun n => outU ts.length n) <;> cases (ns.any fun n => outU ns.length n) <;> cases risesU (sortU ts) <;> cases risesU (sortU ns) <;> simp
theorem refrenumber_err (g : GV) (a1 a2 : Option Addr) (c1 c2 : Nat) (ts ns : List Int) (w : World) (h : GAt 140737488355328 w g) (at_ : Int) (hE : checkG g (checkF g.ts g.ns) = (0, at_)) (h1 : InRow w a1 ts) (h2 : InRow w a2 ns) (hl : ts.length <= 140737488355328 /\ ns.length <= 140737488355328) (er : Int) (hu : renU g ts ns = er) (h0 : er ≠ 0) :
  Calls Tryz.prog 14 #[g.val, .slice a1 ts.length c1, .slice a2 ns.length c2] w fun e w' => e = .returned (.tuple #[.agg #[.slice none 0 0, .slice none 0 0, .int .i64 0, .slice none 0 0, .slice none 0 0], .int .i64 er]) /\ Below w.heap.size w w' := by
 have C0 : Hid (CBx w.heap.size w (gA g) ((w.alloc (.cells (gA g) 26)).alloc (.cells #[.slice none 0 0, .slice none 0 0, .int .i64 0, .slice none 0 0, .slice none 0 0] 26))) := cb_start g w
 have HGA : Hid (∀ w', Below w.heap.size w w' -> GAt 140737488355328 w' g /\ InRow w' a1 ts /\ InRow w' a2 ns) := fun w' hb => ⟨h.later hb, h1.later hb, h2.later hb⟩
 have he : ((0 : Int) != 0) = false := by simp
 have ok : OkC g := OkC.of (by rw [hE])
 have HC : Hid (∀ z, GAt 140737488355328 z g -> Calls Tryz.prog 27 #[g.val] z fun e w' => e = .returned (.int .i64 0) /\ Below z.heap.size z w') := fun z hz => by have := refmay_G g z hz; rw [hE] at this; exact this
 obtain ⟨hl1, hl2⟩ := hl
 have htl := h.tl
 have hnl := h.nl
 clear h h1 h2 hE
 by_cases q1 : ts.length = g.ts.length
 case neg =>
  obtain rfl : 3 = er := by rw [<- hu]; unfold renU; rw [if_pos (.inl q1)]
  have e1 : ((ts.length : Int) != g.ts.length) = true := by simp; omega
  clear h0 hu ok
  go_enter Tryz.func14, Tryz.ntmps14
  go_wp2_with (first
   | (go_at_call 27; refine (HC.out _ (HGA.out _ C0.out.bel).1).mono ?_; rintro e w1 ⟨rfl, b1⟩; have C1 : Hid (CBx w.heap.size w (gA g) w1) := C0.out.later b1; have x0 : w1.cell? ⟨w.heap.size, 0, none⟩ = some (.slice g.ta g.ts.length g.tc) := (cellq_any C1.out.box).trans rfl; have x1 : w1.cell? ⟨w.heap.size, 1, none⟩ = some (.slice g.na g.ns.length g.nc) := (cellq_any C1.out.box).trans rfl; have r0 : w1.cell? ⟨w.heap.size + 1, 0, none⟩ = some (.slice none 0 0) := (cellq_any C1.out.out).trans rfl; have r1 : w1.cell? ⟨w.heap.size + 1, 1, none⟩ = some (.slice none 0 0) := (cellq_any C1.out.out).trans rfl; have r2 : w1.cell? ⟨w.heap.size + 1, 2, none⟩ = some (.int .i64 0) := (cellq_any C1.out.out).trans rfl; have r3 : w1.cell? ⟨w.heap.size + 1, 3, none⟩ = some (.slice none 0 0) := (cellq_any C1.out.out).trans rfl; have r4 : w1.cell? ⟨w.heap.size + 1, 4, none⟩ = some (.slice none 0 0) := (cellq_any C1.out.out).trans rfl; have y0 : w1.frozen? ⟨w.heap.size + 1, 0, none⟩ = false := (by unfold World.frozen?; rw [C1.out.out]; rfl); have y1 : w1.frozen? ⟨w.heap.size + 1, 1, none⟩ = false := (by unfold World.frozen?; rw [C1.out.out]; rfl); have y2 : w1.frozen? ⟨w.heap.size + 1, 2, none⟩ = false := (by unfold World.frozen?; rw [C1.out.out]; rfl); have y3 : w1.frozen? ⟨w.heap.size + 1, 3, none⟩ = false := (by unfold World.frozen?; rw [C1.out.out]; rfl); have y4 : w1.frozen? ⟨w.heap.size + 1, 4, none⟩ = false := (by unfold World.frozen?; rw [C1.out.out]; rfl); have hz : w.heap.size + 1 < w1.heap.size := lt_of_block C1.out.out; clear b1))
  refine bodyPost_ret (v := .tuple #[.agg #[.slice none 0 0, .slice none 0 0, .int .i64 0, .slice none 0 0, .slice none 0 0], .int .i64 3]) (by simp [results, Tryz.results14, go_sem, r0, r1, r2, r3, r4]) rfl ?_
  exact ⟨rfl, (C1.out.five _ _ _ _ _).1⟩
 by_cases q2 : ns.length = g.ns.length
 case neg =>
  obtain rfl : 3 = er := by rw [<- hu]; unfold renU; rw [if_pos (.inr q2)]
  have e1 : ((ts.length : Int) != g.ts.length) = false := by simp; omega
  have e2 : ((ns.length : Int) != g.ns.length) = true := by simp; omega
  clear h0 hu ok q1
  go_enter Tryz.func14, Tryz.ntmps14
  go_wp2_with (first
   | (go_at_call 27; refine (HC.out _ (HGA.out _ C0.out.bel).1).mono ?_; rintro e w1 ⟨rfl, b1⟩; have C1 : Hid (CBx w.heap.size w (gA g) w1) := C0.out.later b1; have x0 : w1.cell? ⟨w.heap.size, 0, none⟩ = some (.slice g.ta g.ts.length g.tc) := (cellq_any C1.out.box).trans rfl; have x1 : w1.cell? ⟨w.heap.size, 1, none⟩ = some (.slice g.na g.ns.length g.nc) := (cellq_any C1.out.box).trans rfl; have r0 : w1.cell? ⟨w.heap.size + 1, 0, none⟩ = some (.slice none 0 0) := (cellq_any C1.out.out).trans rfl; have r1 : w1.cell? ⟨w.heap.size + 1, 1, none⟩ = some (.slice none 0 0) := (cellq_any C1.out.out).trans rfl; have r2 : w1.cell? ⟨w.heap.size + 1, 2, none⟩ = some (.int .i64 0) := (cellq_any C1.out.out).trans rfl; have r3 : w1.cell? ⟨w.heap.size + 1, 3, none⟩ = some (.slice none 0 0) := (cellq_any C1.out.out).trans rfl; have r4 : w1.cell? ⟨w.heap.size + 1, 4, none⟩ = some (.slice none 0 0) := (cellq_any C1.out.out).trans rfl; have y0 : w1.frozen? ⟨w.heap.size + 1, 0, none⟩ = false := (by unfold World.frozen?; rw [C1.out.out]; rfl); have y1 : w1.frozen? ⟨w.heap.size + 1, 1, none⟩ = false := (by unfold World.frozen?; rw [C1.out.out]; rfl); have y2 : w1.frozen? ⟨w.heap.size + 1, 2, none⟩ = false := (by unfold World.frozen?; rw [C1.out.out]; rfl); have y3 : w1.frozen? ⟨w.heap.size + 1, 3, none⟩ = false := (by unfold World.frozen?; rw [C1.out.out]; rfl); have y4 : w1.frozen? ⟨w.heap.size + 1, 4, none⟩ = false := (by unfold World.frozen?; rw [C1.out.out]; rfl); have hz : w.heap.size + 1 < w1.heap.size := lt_of_block C1.out.out; clear b1))
  refine bodyPost_ret (v := .tuple #[.agg #[.slice none 0 0, .slice none 0 0, .int .i64 0, .slice none 0 0, .slice none 0 0], .int .i64 3]) (by simp [results, Tryz.results14, go_sem, r0, r1, r2, r3, r4]) rfl ?_
  exact ⟨rfl, (C1.out.five _ _ _ _ _).1⟩
 rw [renU_perm q1 q2] at hu
 have e1 : ((ts.length : Int) != g.ts.length) = false := by simp; omega
 have e2 : ((ns.length : Int) != g.ns.length) = false := by simp; omega
 have LL : Hid (ts.length <= 1048576 /\ ns.length <= 1048576) := ⟨by have := ok.tl; omega, by have := ok.nl; omega⟩
 have pc1 := permU_cases ts
 have pc2 := permU_cases ns
 obtain ⟨p1, HP1⟩ : ∃ p, Hid (permU ts = p) := ⟨_, rfl⟩
 obtain ⟨p2, HP2⟩ : ∃ p, Hid (permU ns = p) := ⟨_, rfl⟩
 rw [HP1.out] at pc1 hu
 rw [HP2.out] at pc2 hu
 clear q1 q2 ok
 by_cases r4 : p1 = 4
 ·obtain rfl : 4 = er := by rw [<- hu, if_pos (.inl r4)]
  have s1 : (p1 == 4) = true := by simp [r4]
  clear h0 hu r4 pc1 pc2
  go_enter Tryz.func14, Tryz.ntmps14
  go_wp2_with (first
   | (go_at_call 49; refine (perm_G a2 c2 ns _ p2 HP2.out LL.out.2 (HGA.out _ C2.out.bel).2.2).mono ?_; rintro e w3 ⟨rfl, b3⟩; have C3 : Hid (CBx w.heap.size w (gA g) w3) := C2.out.later b3; clear x0 x1 r0 r1 r2 r3 r4 y0 y1 y2 y3 y4 hz; have x0 : w3.cell? ⟨w.heap.size, 0, none⟩ = some (.slice g.ta g.ts.length g.tc) := (cellq_any C3.out.box).trans rfl; have x1 : w3.cell? ⟨w.heap.size, 1, none⟩ = some (.slice g.na g.ns.length g.nc) := (cellq_any C3.out.box).trans rfl; have r0 : w3.cell? ⟨w.heap.size + 1, 0, none⟩ = some (.slice none 0 0) := (cellq_any C3.out.out).trans rfl; have r1 : w3.cell? ⟨w.heap.size + 1, 1, none⟩ = some (.slice none 0 0) := (cellq_any C3.out.out).trans rfl; have r2 : w3.cell? ⟨w.heap.size + 1, 2, none⟩ = some (.int .i64 0) := (cellq_any C3.out.out).trans rfl; have r3 : w3.cell? ⟨w.heap.size + 1, 3, none⟩ = some (.slice none 0 0) := (cellq_any C3.out.out).trans rfl; have r4 : w3.cell? ⟨w.heap.size + 1, 4, none⟩ = some (.slice none 0 0) := (cellq_any C3.out.out).trans rfl; have y0 : w3.frozen? ⟨w.heap.size + 1, 0, none⟩ = false := (by unfold World.frozen?; rw [C3.out.out]; rfl); have y1 : w3.frozen? ⟨w.heap.size + 1, 1, none⟩ = false := (by unfold World.frozen?; rw [C3.out.out]; rfl); have y2 : w3.frozen? ⟨w.heap.size + 1, 2, none⟩ = false := (by unfold World.frozen?; rw [C3.out.out]; rfl); have y3 : w3.frozen? ⟨w.heap.size + 1, 3, none⟩ = false := (by unfold World.frozen?; rw [C3.out.out]; rfl); have y4 : w3.frozen? ⟨w.heap.size + 1, 4, none⟩ = false := (by unfold World.frozen?; rw [C3.out.out]; rfl); have hz : w.heap.size + 1 < w3.heap.size := lt_of_block C3.out.out; clear b3)
   | (go_at_call 49; refine (perm_G a1 c1 ts _ p1 HP1.out LL.out.1 (HGA.out _ C1.out.bel).2.1).mono ?_; rintro e w2 ⟨rfl, b2⟩; have C2 : Hid (CBx w.heap.size w (gA g) w2) := C1.out.later b2; clear x0 x1 r0 r1 r2 r3 r4 y0 y1 y2 y3 y4 hz; have x0 : w2.cell? ⟨w.heap.size, 0, none⟩ = some (.slice g.ta g.ts.length g.tc) := (cellq_any C2.out.box).trans rfl; have x1 : w2.cell? ⟨w.heap.size, 1, none⟩ = some (.slice g.na g.ns.length g.nc) := (cellq_any C2.out.box).trans rfl; have r0 : w2.cell? ⟨w.heap.size + 1, 0, none⟩ = some (.slice none 0 0) := (cellq_any C2.out.out).trans rfl; have r1 : w2.cell? ⟨w.heap.size + 1, 1, none⟩ = some (.slice none 0 0) := (cellq_any C2.out.out).trans rfl; have r2 : w2.cell? ⟨w.heap.size + 1, 2, none⟩ = some (.int .i64 0) := (cellq_any C2.out.out).trans rfl; have r3 : w2.cell? ⟨w.heap.size + 1, 3, none⟩ = some (.slice none 0 0) := (cellq_any C2.out.out).trans rfl; have r4 : w2.cell? ⟨w.heap.size + 1, 4, none⟩ = some (.slice none 0 0) := (cellq_any C2.out.out).trans rfl; have y0 : w2.frozen? ⟨w.heap.size + 1, 0, none⟩ = false := (by unfold World.frozen?; rw [C2.out.out]; rfl); have y1 : w2.frozen? ⟨w.heap.size + 1, 1, none⟩ = false := (by unfold World.frozen?; rw [C2.out.out]; rfl); have y2 : w2.frozen? ⟨w.heap.size + 1, 2, none⟩ = false := (by unfold World.frozen?; rw [C2.out.out]; rfl); have y3 : w2.frozen? ⟨w.heap.size + 1, 3, none⟩ = false := (by unfold World.frozen?; rw [C2.out.out]; rfl); have y4 : w2.frozen? ⟨w.heap.size + 1, 4, none⟩ = false := (by unfold World.frozen?; rw [C2.out.out]; rfl); have hz : w.heap.size + 1 < w2.heap.size := lt_of_block C2.out.out; clear b2)
   | (go_at_call 27; refine (HC.out _ (HGA.out _ C0.out.bel).1).mono ?_; rintro e w1 ⟨rfl, b1⟩; have C1 : Hid (CBx w.heap.size w (gA g) w1) := C0.out.later b1; have x0 : w1.cell? ⟨w.heap.size, 0, none⟩ = some (.slice g.ta g.ts.length g.tc) := (cellq_any C1.out.box).trans rfl; have x1 : w1.cell? ⟨w.heap.size, 1, none⟩ = some (.slice g.na g.ns.length g.nc) := (cellq_any C1.out.box).trans rfl; have r0 : w1.cell? ⟨w.heap.size + 1, 0, none⟩ = some (.slice none 0 0) := (cellq_any C1.out.out).trans rfl; have r1 : w1.cell? ⟨w.heap.size + 1, 1, none⟩ = some (.slice none 0 0) := (cellq_any C1.out.out).trans rfl; have r2 : w1.cell? ⟨w.heap.size + 1, 2, none⟩ = some (.int .i64 0) := (cellq_any C1.out.out).trans rfl; have r3 : w1.cell? ⟨w.heap.size + 1, 3, none⟩ = some (.slice none 0 0) := (cellq_any C1.out.out).trans rfl; have r4 : w1.cell? ⟨w.heap.size + 1, 4, none⟩ = some (.slice none 0 0) := (cellq_any C1.out.out).trans rfl; have y0 : w1.frozen? ⟨w.heap.size + 1, 0, none⟩ = false := (by unfold World.frozen?; rw [C1.out.out]; rfl); have y1 : w1.frozen? ⟨w.heap.size + 1, 1, none⟩ = false := (by unfold World.frozen?; rw [C1.out.out]; rfl); have y2 : w1.frozen? ⟨w.heap.size + 1, 2, none⟩ = false := (by unfold World.frozen?; rw [C1.out.out]; rfl); have y3 : w1.frozen? ⟨w.heap.size + 1, 3, none⟩ = false := (by unfold World.frozen?; rw [C1.out.out]; rfl); have y4 : w1.frozen? ⟨w.heap.size + 1, 4, none⟩ = false := (by unfold World.frozen?; rw [C1.out.out]; rfl); have hz : w.heap.size + 1 < w1.heap.size := lt_of_block C1.out.out; clear b1))
  refine bodyPost_ret (v := .tuple #[.agg #[.slice none 0 0, .slice none 0 0, .int .i64 0, .slice none 0 0, .slice none 0 0], .int .i64 4]) (by simp [results, Tryz.results14, go_sem, r0, r1, r2, r3, r4]) rfl ?_
  exact ⟨rfl, (C3.out.five _ _ _ _ _).1⟩
 by_cases r5 : p2 = 4
 ·obtain rfl : 4 = er := by rw [<- hu, if_pos (.inr r5)]
  have s1 : (p1 == 4) = false := by simp [r4]
  have s2 : (p2 == 4) = true := by simp [r5]
  clear h0 hu r4 r5 pc1 pc2
  go_enter Tryz.func14, Tryz.ntmps14
  go_wp2_with (first
   | (go_at_call 49; refine (perm_G a2 c2 ns _ p2 HP2.out LL.out.2 (HGA.out _ C2.out.bel).2.2).mono ?_; rintro e w3 ⟨rfl, b3⟩; have C3 : Hid (CBx w.heap.size w (gA g) w3) := C2.out.later b3; clear x0 x1 r0 r1 r2 r3 r4 y0 y1 y2 y3 y4 hz; have x0 : w3.cell? ⟨w.heap.size, 0, none⟩ = some (.slice g.ta g.ts.length g.tc) := (cellq_any C3.out.box).trans rfl; have x1 : w3.cell? ⟨w.heap.size, 1, none⟩ = some (.slice g.na g.ns.length g.nc) := (cellq_any C3.out.box).trans rfl; have r0 : w3.cell? ⟨w.heap.size + 1, 0, none⟩ = some (.slice none 0 0) := (cellq_any C3.out.out).trans rfl; have r1 : w3.cell? ⟨w.heap.size + 1, 1, none⟩ = some (.slice none 0 0) := (cellq_any C3.out.out).trans rfl; have r2 : w3.cell? ⟨w.heap.size + 1, 2, none⟩ = some (.int .i64 0) := (cellq_any C3.out.out).trans rfl; have r3 : w3.cell? ⟨w.heap.size + 1, 3, none⟩ = some (.slice none 0 0) := (cellq_any C3.out.out).trans rfl; have r4 : w3.cell? ⟨w.heap.size + 1, 4, none⟩ = some (.slice none 0 0) := (cellq_any C3.out.out).trans rfl; have y0 : w3.frozen? ⟨w.heap.size + 1, 0, none⟩ = false := (by unfold World.frozen?; rw [C3.out.out]; rfl); have y1 : w3.frozen? ⟨w.heap.size + 1, 1, none⟩ = false := (by unfold World.frozen?; rw [C3.out.out]; rfl); have y2 : w3.frozen? ⟨w.heap.size + 1, 2, none⟩ = false := (by unfold World.frozen?; rw [C3.out.out]; rfl); have y3 : w3.frozen? ⟨w.heap.size + 1, 3, none⟩ = false := (by unfold World.frozen?; rw [C3.out.out]; rfl); have y4 : w3.frozen? ⟨w.heap.size + 1, 4, none⟩ = false := (by unfold World.frozen?; rw [C3.out.out]; rfl); have hz : w.heap.size + 1 < w3.heap.size := lt_of_block C3.out.out; clear b3)
   | (go_at_call 49; refine (perm_G a1 c1 ts _ p1 HP1.out LL.out.1 (HGA.out _ C1.out.bel).2.1).mono ?_; rintro e w2 ⟨rfl, b2⟩; have C2 : Hid (CBx w.heap.size w (gA g) w2) := C1.out.later b2; clear x0 x1 r0 r1 r2 r3 r4 y0 y1 y2 y3 y4 hz; have x0 : w2.cell? ⟨w.heap.size, 0, none⟩ = some (.slice g.ta g.ts.length g.tc) := (cellq_any C2.out.box).trans rfl; have x1 : w2.cell? ⟨w.heap.size, 1, none⟩ = some (.slice g.na g.ns.length g.nc) := (cellq_any C2.out.box).trans rfl; have r0 : w2.cell? ⟨w.heap.size + 1, 0, none⟩ = some (.slice none 0 0) := (cellq_any C2.out.out).trans rfl; have r1 : w2.cell? ⟨w.heap.size + 1, 1, none⟩ = some (.slice none 0 0) := (cellq_any C2.out.out).trans rfl; have r2 : w2.cell? ⟨w.heap.size + 1, 2, none⟩ = some (.int .i64 0) := (cellq_any C2.out.out).trans rfl; have r3 : w2.cell? ⟨w.heap.size + 1, 3, none⟩ = some (.slice none 0 0) := (cellq_any C2.out.out).trans rfl; have r4 : w2.cell? ⟨w.heap.size + 1, 4, none⟩ = some (.slice none 0 0) := (cellq_any C2.out.out).trans rfl; have y0 : w2.frozen? ⟨w.heap.size + 1, 0, none⟩ = false := (by unfold World.frozen?; rw [C2.out.out]; rfl); have y1 : w2.frozen? ⟨w.heap.size + 1, 1, none⟩ = false := (by unfold World.frozen?; rw [C2.out.out]; rfl); have y2 : w2.frozen? ⟨w.heap.size + 1, 2, none⟩ = false := (by unfold World.frozen?; rw [C2.out.out]; rfl); have y3 : w2.frozen? ⟨w.heap.size + 1, 3, none⟩ = false := (by unfold World.frozen?; rw [C2.out.out]; rfl); have y4 : w2.frozen? ⟨w.heap.size + 1, 4, none⟩ = false := (by unfold World.frozen?; rw [C2.out.out]; rfl); have hz : w.heap.size + 1 < w2.heap.size := lt_of_block C2.out.out; clear b2)
   | (go_at_call 27; refine (HC.out _ (HGA.out _ C0.out.bel).1).mono ?_; rintro e w1 ⟨rfl, b1⟩; have C1 : Hid (CBx w.heap.size w (gA g) w1) := C0.out.later b1; have x0 : w1.cell? ⟨w.heap.size, 0, none⟩ = some (.slice g.ta g.ts.length g.tc) := (cellq_any C1.out.box).trans rfl; have x1 : w1.cell? ⟨w.heap.size, 1, none⟩ = some (.slice g.na g.ns.length g.nc) := (cellq_any C1.out.box).trans rfl; have r0 : w1.cell? ⟨w.heap.size + 1, 0, none⟩ = some (.slice none 0 0) := (cellq_any C1.out.out).trans rfl; have r1 : w1.cell? ⟨w.heap.size + 1, 1, none⟩ = some (.slice none 0 0) := (cellq_any C1.out.out).trans rfl; have r2 : w1.cell? ⟨w.heap.size + 1, 2, none⟩ = some (.int .i64 0) := (cellq_any C1.out.out).trans rfl; have r3 : w1.cell? ⟨w.heap.size + 1, 3, none⟩ = some (.slice none 0 0) := (cellq_any C1.out.out).trans rfl; have r4 : w1.cell? ⟨w.heap.size + 1, 4, none⟩ = some (.slice none 0 0) := (cellq_any C1.out.out).trans rfl; have y0 : w1.frozen? ⟨w.heap.size + 1, 0, none⟩ = false := (by unfold World.frozen?; rw [C1.out.out]; rfl); have y1 : w1.frozen? ⟨w.heap.size + 1, 1, none⟩ = false := (by unfold World.frozen?; rw [C1.out.out]; rfl); have y2 : w1.frozen? ⟨w.heap.size + 1, 2, none⟩ = false := (by unfold World.frozen?; rw [C1.out.out]; rfl); have y3 : w1.frozen? ⟨w.heap.size + 1, 3, none⟩ = false := (by unfold World.frozen?; rw [C1.out.out]; rfl); have y4 : w1.frozen? ⟨w.heap.size + 1, 4, none⟩ = false := (by unfold World.frozen?; rw [C1.out.out]; rfl); have hz : w.heap.size + 1 < w1.heap.size := lt_of_block C1.out.out; clear b1))
  refine bodyPost_ret (v := .tuple #[.agg #[.slice none 0 0, .slice none 0 0, .int .i64 0, .slice none 0 0, .slice none 0 0], .int .i64 4]) (by simp [results, Tryz.results14, go_sem, r0, r1, r2, r3, r4]) rfl ?_
  exact ⟨rfl, (C3.out.five _ _ _ _ _).1⟩
 rw [if_neg (by omega)] at hu
 have s1 : (p1 == 4) = false := by simp [r4]
 have s2 : (p2 == 4) = false := by simp [r5]
 by_cases r6 : p1 = 0
 ·have r7 : p2 ≠ 0 := fun e => h0 (by rw [<- hu, if_neg (by omega)])
  obtain rfl : 6 = er := by rw [<- hu, if_pos (.inr r7)]
  have s3 : (p1 != 0) = false := by simp [r6]
  have s4 : (p2 != 0) = true := by simp [r7]
  clear h0 hu r4 r5 r6 r7 pc1 pc2
  go_enter Tryz.func14, Tryz.ntmps14
  go_wp2_with (first
   | (go_at_call 49; refine (perm_G a2 c2 ns _ p2 HP2.out LL.out.2 (HGA.out _ C2.out.bel).2.2).mono ?_; rintro e w3 ⟨rfl, b3⟩; have C3 : Hid (CBx w.heap.size w (gA g) w3) := C2.out.later b3; clear x0 x1 r0 r1 r2 r3 r4 y0 y1 y2 y3 y4 hz; have x0 : w3.cell? ⟨w.heap.size, 0, none⟩ = some (.slice g.ta g.ts.length g.tc) := (cellq_any C3.out.box).trans rfl; have x1 : w3.cell? ⟨w.heap.size, 1, none⟩ = some (.slice g.na g.ns.length g.nc) := (cellq_any C3.out.box).trans rfl; have r0 : w3.cell? ⟨w.heap.size + 1, 0, none⟩ = some (.slice none 0 0) := (cellq_any C3.out.out).trans rfl; have r1 : w3.cell? ⟨w.heap.size + 1, 1, none⟩ = some (.slice none 0 0) := (cellq_any C3.out.out).trans rfl; have r2 : w3.cell? ⟨w.heap.size + 1, 2, none⟩ = some (.int .i64 0) := (cellq_any C3.out.out).trans rfl; have r3 : w3.cell? ⟨w.heap.size + 1, 3, none⟩ = some (.slice none 0 0) := (cellq_any C3.out.out).trans rfl; have r4 : w3.cell? ⟨w.heap.size + 1, 4, none⟩ = some (.slice none 0 0) := (cellq_any C3.out.out).trans rfl; have y0 : w3.frozen? ⟨w.heap.size + 1, 0, none⟩ = false := (by unfold World.frozen?; rw [C3.out.out]; rfl); have y1 : w3.frozen? ⟨w.heap.size + 1, 1, none⟩ = false := (by unfold World.frozen?; rw [C3.out.out]; rfl); have y2 : w3.frozen? ⟨w.heap.size + 1, 2, none⟩ = false := (by unfold World.frozen?; rw [C3.out.out]; rfl); have y3 : w3.frozen? ⟨w.heap.size + 1, 3, none⟩ = false := (by unfold World.frozen?; rw [C3.out.out]; rfl); have y4 : w3.frozen? ⟨w.heap.size + 1, 4, none⟩ = false := (by unfold World.frozen?; rw [C3.out.out]; rfl); have hz : w.heap.size + 1 < w3.heap.size := lt_of_block C3.out.out; clear b3)
   | (go_at_call 49; refine (perm_G a1 c1 ts _ p1 HP1.out LL.out.1 (HGA.out _ C1.out.bel).2.1).mono ?_; rintro e w2 ⟨rfl, b2⟩; have C2 : Hid (CBx w.heap.size w (gA g) w2) := C1.out.later b2; clear x0 x1 r0 r1 r2 r3 r4 y0 y1 y2 y3 y4 hz; have x0 : w2.cell? ⟨w.heap.size, 0, none⟩ = some (.slice g.ta g.ts.length g.tc) := (cellq_any C2.out.box).trans rfl; have x1 : w2.cell? ⟨w.heap.size, 1, none⟩ = some (.slice g.na g.ns.length g.nc) := (cellq_any C2.out.box).trans rfl; have r0 : w2.cell? ⟨w.heap.size + 1, 0, none⟩ = some (.slice none 0 0) := (cellq_any C2.out.out).trans rfl; have r1 : w2.cell? ⟨w.heap.size + 1, 1, none⟩ = some (.slice none 0 0) := (cellq_any C2.out.out).trans rfl; have r2 : w2.cell? ⟨w.heap.size + 1, 2, none⟩ = some (.int .i64 0) := (cellq_any C2.out.out).trans rfl; have r3 : w2.cell? ⟨w.heap.size + 1, 3, none⟩ = some (.slice none 0 0) := (cellq_any C2.out.out).trans rfl; have r4 : w2.cell? ⟨w.heap.size + 1, 4, none⟩ = some (.slice none 0 0) := (cellq_any C2.out.out).trans rfl; have y0 : w2.frozen? ⟨w.heap.size + 1, 0, none⟩ = false := (by unfold World.frozen?; rw [C2.out.out]; rfl); have y1 : w2.frozen? ⟨w.heap.size + 1, 1, none⟩ = false := (by unfold World.frozen?; rw [C2.out.out]; rfl); have y2 : w2.frozen? ⟨w.heap.size + 1, 2, none⟩ = false := (by unfold World.frozen?; rw [C2.out.out]; rfl); have y3 : w2.frozen? ⟨w.heap.size + 1, 3, none⟩ = false := (by unfold World.frozen?; rw [C2.out.out]; rfl); have y4 : w2.frozen? ⟨w.heap.size + 1, 4, none⟩ = false := (by unfold World.frozen?; rw [C2.out.out]; rfl); have hz : w.heap.size + 1 < w2.heap.size := lt_of_block C2.out.out; clear b2)
   | (go_at_call 27; refine (HC.out _ (HGA.out _ C0.out.bel).1).mono ?_; rintro e w1 ⟨rfl, b1⟩; have C1 : Hid (CBx w.heap.size w (gA g) w1) := C0.out.later b1; have x0 : w1.cell? ⟨w.heap.size, 0, none⟩ = some (.slice g.ta g.ts.length g.tc) := (cellq_any C1.out.box).trans rfl; have x1 : w1.cell? ⟨w.heap.size, 1, none⟩ = some (.slice g.na g.ns.length g.nc) := (cellq_any C1.out.box).trans rfl; have r0 : w1.cell? ⟨w.heap.size + 1, 0, none⟩ = some (.slice none 0 0) := (cellq_any C1.out.out).trans rfl; have r1 : w1.cell? ⟨w.heap.size + 1, 1, none⟩ = some (.slice none 0 0) := (cellq_any C1.out.out).trans rfl; have r2 : w1.cell? ⟨w.heap.size + 1, 2, none⟩ = some (.int .i64 0) := (cellq_any C1.out.out).trans rfl; have r3 : w1.cell? ⟨w.heap.size + 1, 3, none⟩ = some (.slice none 0 0) := (cellq_any C1.out.out).trans rfl; have r4 : w1.cell? ⟨w.heap.size + 1, 4, none⟩ = some (.slice none 0 0) := (cellq_any C1.out.out).trans rfl; have y0 : w1.frozen? ⟨w.heap.size + 1, 0, none⟩ = false := (by unfold World.frozen?; rw [C1.out.out]; rfl); have y1 : w1.frozen? ⟨w.heap.size + 1, 1, none⟩ = false := (by unfold World.frozen?; rw [C1.out.out]; rfl); have y2 : w1.frozen? ⟨w.heap.size + 1, 2, none⟩ = false := (by unfold World.frozen?; rw [C1.out.out]; rfl); have y3 : w1.frozen? ⟨w.heap.size + 1, 3, none⟩ = false := (by unfold World.frozen?; rw [C1.out.out]; rfl); have y4 : w1.frozen? ⟨w.heap.size + 1, 4, none⟩ = false := (by unfold World.frozen?; rw [C1.out.out]; rfl); have hz : w.heap.size + 1 < w1.heap.size := lt_of_block C1.out.out; clear b1))
  refine bodyPost_ret (v := .tuple #[.agg #[.slice none 0 0, .slice none 0 0, .int .i64 0, .slice none 0 0, .slice none 0 0], .int .i64 6]) (by simp [results, Tryz.results14, go_sem, r0, r1, r2, r3, r4]) rfl ?_
  exact ⟨rfl, (C3.out.five _ _ _ _ _).1⟩
 ·obtain rfl : 6 = er := by rw [<- hu, if_pos (.inl r6)]
  have s3 : (p1 != 0) = true := by simp [r6]
  clear h0 hu r4 r5 r6 pc1 pc2
  go_enter Tryz.func14, Tryz.ntmps14
  go_wp2_with (first
   | (go_at_call 49; refine (perm_G a2 c2 ns _ p2 HP2.out LL.out.2 (HGA.out _ C2.out.bel).2.2).mono ?_; rintro e w3 ⟨rfl, b3⟩; have C3 : Hid (CBx w.heap.size w (gA g) w3) := C2.out.later b3; clear x0 x1 r0 r1 r2 r3 r4 y0 y1 y2 y3 y4 hz; have x0 : w3.cell? ⟨w.heap.size, 0, none⟩ = some (.slice g.ta g.ts.length g.tc) := (cellq_any C3.out.box).trans rfl; have x1 : w3.cell? ⟨w.heap.size, 1, none⟩ = some (.slice g.na g.ns.length g.nc) := (cellq_any C3.out.box).trans rfl; have r0 : w3.cell? ⟨w.heap.size + 1, 0, none⟩ = some (.slice none 0 0) := (cellq_any C3.out.out).trans rfl; have r1 : w3.cell? ⟨w.heap.size + 1, 1, none⟩ = some (.slice none 0 0) := (cellq_any C3.out.out).trans rfl; have r2 : w3.cell? ⟨w.heap.size + 1, 2, none⟩ = some (.int .i64 0) := (cellq_any C3.out.out).trans rfl; have r3 : w3.cell? ⟨w.heap.size + 1, 3, none⟩ = some (.slice none 0 0) := (cellq_any C3.out.out).trans rfl; have r4 : w3.cell? ⟨w.heap.size + 1, 4, none⟩ = some (.slice none 0 0) := (cellq_any C3.out.out).trans rfl; have y0 : w3.frozen? ⟨w.heap.size + 1, 0, none⟩ = false := (by unfold World.frozen?; rw [C3.out.out]; rfl); have y1 : w3.frozen? ⟨w.heap.size + 1, 1, none⟩ = false := (by unfold World.frozen?; rw [C3.out.out]; rfl); have y2 : w3.frozen? ⟨w.heap.size + 1, 2, none⟩ = false := (by unfold World.frozen?; rw [C3.out.out]; rfl); have y3 : w3.frozen? ⟨w.heap.size + 1, 3, none⟩ = false := (by unfold World.frozen?; rw [C3.out.out]; rfl); have y4 : w3.frozen? ⟨w.heap.size + 1, 4, none⟩ = false := (by unfold World.frozen?; rw [C3.out.out]; rfl); have hz : w.heap.size + 1 < w3.heap.size := lt_of_block C3.out.out; clear b3)
   | (go_at_call 49; refine (perm_G a1 c1 ts _ p1 HP1.out LL.out.1 (HGA.out _ C1.out.bel).2.1).mono ?_; rintro e w2 ⟨rfl, b2⟩; have C2 : Hid (CBx w.heap.size w (gA g) w2) := C1.out.later b2; clear x0 x1 r0 r1 r2 r3 r4 y0 y1 y2 y3 y4 hz; have x0 : w2.cell? ⟨w.heap.size, 0, none⟩ = some (.slice g.ta g.ts.length g.tc) := (cellq_any C2.out.box).trans rfl; have x1 : w2.cell? ⟨w.heap.size, 1, none⟩ = some (.slice g.na g.ns.length g.nc) := (cellq_any C2.out.box).trans rfl; have r0 : w2.cell? ⟨w.heap.size + 1, 0, none⟩ = some (.slice none 0 0) := (cellq_any C2.out.out).trans rfl; have r1 : w2.cell? ⟨w.heap.size + 1, 1, none⟩ = some (.slice none 0 0) := (cellq_any C2.out.out).trans rfl; have r2 : w2.cell? ⟨w.heap.size + 1, 2, none⟩ = some (.int .i64 0) := (cellq_any C2.out.out).trans rfl; have r3 : w2.cell? ⟨w.heap.size + 1, 3, none⟩ = some (.slice none 0 0) := (cellq_any C2.out.out).trans rfl; have r4 : w2.cell? ⟨w.heap.size + 1, 4, none⟩ = some (.slice none 0 0) := (cellq_any C2.out.out).trans rfl; have y0 : w2.frozen? ⟨w.heap.size + 1, 0, none⟩ = false := (by unfold World.frozen?; rw [C2.out.out]; rfl); have y1 : w2.frozen? ⟨w.heap.size + 1, 1, none⟩ = false := (by unfold World.frozen?; rw [C2.out.out]; rfl); have y2 : w2.frozen? ⟨w.heap.size + 1, 2, none⟩ = false := (by unfold World.frozen?; rw [C2.out.out]; rfl); have y3 : w2.frozen? ⟨w.heap.size + 1, 3, none⟩ = false := (by unfold World.frozen?; rw [C2.out.out]; rfl); have y4 : w2.frozen? ⟨w.heap.size + 1, 4, none⟩ = false := (by unfold World.frozen?; rw [C2.out.out]; rfl); have hz : w.heap.size + 1 < w2.heap.size := lt_of_block C2.out.out; clear b2)
   | (go_at_call 27; refine (HC.out _ (HGA.out _ C0.out.bel).1).mono ?_; rintro e w1 ⟨rfl, b1⟩; have C1 : Hid (CBx w.heap.size w (gA g) w1) := C0.out.later b1; have x0 : w1.cell? ⟨w.heap.size, 0, none⟩ = some (.slice g.ta g.ts.length g.tc) := (cellq_any C1.out.box).trans rfl; have x1 : w1.cell? ⟨w.heap.size, 1, none⟩ = some (.slice g.na g.ns.length g.nc) := (cellq_any C1.out.box).trans rfl; have r0 : w1.cell? ⟨w.heap.size + 1, 0, none⟩ = some (.slice none 0 0) := (cellq_any C1.out.out).trans rfl; have r1 : w1.cell? ⟨w.heap.size + 1, 1, none⟩ = some (.slice none 0 0) := (cellq_any C1.out.out).trans rfl; have r2 : w1.cell? ⟨w.heap.size + 1, 2, none⟩ = some (.int .i64 0) := (cellq_any C1.out.out).trans rfl; have r3 : w1.cell? ⟨w.heap.size + 1, 3, none⟩ = some (.slice none 0 0) := (cellq_any C1.out.out).trans rfl; have r4 : w1.cell? ⟨w.heap.size + 1, 4, none⟩ = some (.slice none 0 0) := (cellq_any C1.out.out).trans rfl; have y0 : w1.frozen? ⟨w.heap.size + 1, 0, none⟩ = false := (by unfold World.frozen?; rw [C1.out.out]; rfl); have y1 : w1.frozen? ⟨w.heap.size + 1, 1, none⟩ = false := (by unfold World.frozen?; rw [C1.out.out]; rfl); have y2 : w1.frozen? ⟨w.heap.size + 1, 2, none⟩ = false := (by unfold World.frozen?; rw [C1.out.out]; rfl); have y3 : w1.frozen? ⟨w.heap.size + 1, 3, none⟩ = false := (by unfold World.frozen?; rw [C1.out.out]; rfl); have y4 : w1.frozen? ⟨w.heap.size + 1, 4, none⟩ = false := (by unfold World.frozen?; rw [C1.out.out]; rfl); have hz : w.heap.size + 1 < w1.heap.size := lt_of_block C1.out.out; clear b1))
  refine bodyPost_ret (v := .tuple #[.agg #[.slice none 0 0, .slice none 0 0, .int .i64 0, .slice none 0 0, .slice none 0 0], .int .i64 6]) (by simp [results, Tryz.results14, go_sem, r0, r1, r2, r3, r4]) rfl ?_
  exact ⟨rfl, (C3.out.five _ _ _ _ _).1⟩
end Go.Proofs.YtmkakdfdfdcncaaGreatDoor
