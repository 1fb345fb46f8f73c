import Derived.Test.YtcjejnenklppiaaDoorBZ3
import Derived.Shelf.SlSortCmp.Whole1
import Derived.Shelf.SlSortCmp.NoneTotal
namespace Go.Proofs.YtcjejnenklppiaaDoor
set_option linter.unusedVariables false
open Go.RowKit Go.Shelf Go.Sort Go.Lib

def sfRenB : Ren := ⟨fun | 6 => 70 | 14 => 77 | 15 => 76 | 20 => 90 | 21 => 91 | 22 => 92 | 23 => 93 | 24 => 94 | 25 => 95 | 26 => 96 | 27 => 97 | 28 => 88 | 29 => 89 | 46 => 103 | 47 => 99 | 48 => 100 | 49 => 104 | 50 => 105 | 57 => 107 | n => n, fun | 0 => 0 | 3 => 3 | 4 => 4 | 5 => 5 | 9 => 9 | 22 => 47 | 24 => 42 | 25 => 98 | 39 => 84 | 45 => 105 | 46 => 106 | 50 => 110 | 53 => 113 | 55 => 58 | 66 => 119 | 70 => 123 | 76 => 127 | 77 => 128 | n => n, fun n => n⟩
theorem sf_laysB : SlLaysF.n6 Tryd.prog sfRenB := {
  mixed := by kernel_rfl
  f6 := ⟨Tryd.f70.name, by decide, by kernel_rfl⟩
  f14 := ⟨Tryd.f77.name, by decide, by kernel_rfl⟩
  f15 := by kernel_rfl
  f20 := ⟨Tryd.f90.name, by decide, by kernel_rfl⟩
  f21 := ⟨Tryd.f91.name, by decide, by kernel_rfl⟩
  f22 := ⟨Tryd.f92.name, by decide, by kernel_rfl⟩
  f23 := ⟨Tryd.f93.name, by decide, by kernel_rfl⟩
  f24 := ⟨Tryd.f94.name, by decide, by kernel_rfl⟩
  f25 := ⟨Tryd.f95.name, by decide, by kernel_rfl⟩
  f26 := ⟨Tryd.f96.name, by decide, by kernel_rfl⟩
  f27 := ⟨Tryd.f97.name, by decide, by kernel_rfl⟩
  f28 := by kernel_rfl
  f29 := by kernel_rfl
  f46 := ⟨Tryd.f103.name, by decide, by kernel_rfl⟩
  f47 := by kernel_rfl
  f48 := by kernel_rfl
  f49 := ⟨Tryd.f104.name, by decide, by kernel_rfl⟩
  f50 := ⟨Tryd.f105.name, by decide, by kernel_rfl⟩
  f57 := ⟨Tryd.f107.name, by decide, by kernel_rfl⟩
  t0 := by kernel_rfl
  a0 := fun _ => by kernel_rfl
  z0 := fun _ => by kernel_rfl
  v0 := fun _ => by kernel_rfl
  t3 := by kernel_rfl
  a3 := fun _ => by kernel_rfl
  z3 := fun _ => by kernel_rfl
  v3 := fun _ => by kernel_rfl
  t4 := by kernel_rfl
  a4 := fun _ => by kernel_rfl
  z4 := fun _ => by kernel_rfl
  v4 := fun _ => by kernel_rfl
  t5 := by kernel_rfl
  a5 := fun _ => by kernel_rfl
  z5 := fun _ => by kernel_rfl
  v5 := fun _ => by kernel_rfl
  t9 := by kernel_rfl
  a9 := fun _ => by kernel_rfl
  z9 := fun _ => by kernel_rfl
  v9 := fun _ => by kernel_rfl
  t22 := by kernel_rfl
  a22 := fun _ => by kernel_rfl
  z22 := fun _ => by kernel_rfl
  v22 := fun _ => by kernel_rfl
  a24 := fun _ => by kernel_rfl
  z24 := fun _ => by kernel_rfl
  t25 := by kernel_rfl
  a25 := fun _ => by kernel_rfl
  z25 := fun _ => by kernel_rfl
  v25 := fun _ => by kernel_rfl
  t39 := by kernel_rfl
  a39 := fun _ => by kernel_rfl
  z39 := fun _ => by kernel_rfl
  v39 := fun _ => by kernel_rfl
  t45 := by kernel_rfl
  a45 := fun _ => by kernel_rfl
  z45 := fun _ => by kernel_rfl
  v45 := fun _ => by kernel_rfl
  t46 := by kernel_rfl
  a46 := fun _ => by kernel_rfl
  z46 := fun _ => by kernel_rfl
  v46 := fun _ => by kernel_rfl
  t50 := by kernel_rfl
  a50 := fun _ => by kernel_rfl
  z50 := fun _ => by kernel_rfl
  v50 := fun _ => by kernel_rfl
  t53 := by kernel_rfl
  a53 := fun _ => by kernel_rfl
  z53 := fun _ => by kernel_rfl
  v53 := fun _ => by kernel_rfl
  t55 := by kernel_rfl
  a55 := fun _ => by kernel_rfl
  z55 := fun _ => by kernel_rfl
  v55 := fun _ => by kernel_rfl
  t66 := by kernel_rfl
  a66 := fun _ => by kernel_rfl
  z66 := fun _ => by kernel_rfl
  v66 := fun _ => by kernel_rfl
  t70 := by kernel_rfl
  a70 := fun _ => by kernel_rfl
  z70 := fun _ => by kernel_rfl
  v70 := fun _ => by kernel_rfl
  t76 := by kernel_rfl
  a76 := fun _ => by kernel_rfl
  z76 := fun _ => by kernel_rfl
  v76 := fun _ => by kernel_rfl
  t77 := by kernel_rfl
  a77 := fun _ => by kernel_rfl
  z77 := fun _ => by kernel_rfl
  v77 := fun _ => by kernel_rfl }

def cmpB (x y : Nat) : Int := if x < y then -1 else if y < x then 1 else 0
theorem compare_B (x y : Nat) (w : World) : Calls Tryd.prog 72 #[.int .i64 (x : Int), .int .i64 (y : Int)] w fun e w' => e = .returned (.int .i64 (cmpB x y)) ∧ w' = w := by
  have NN : Hid (∀ z : Nat, Calls Tryd.prog 78 #[.int .i64 (z : Int)] w fun e w' => e = .returned (.bool false) ∧ w' = w) := fun z => by
    go_enter Tryd.func78, Tryd.ntmps78
    go_wp2
    go_ret
    simp
  unfold cmpB
  by_cases h1 : x < y
  · have i1 : (x : Int) < (y : Int) := by omega
    rw [if_pos h1]
    go_enter Tryd.func72, Tryd.ntmps72
    go_wp2_with (go_at_call 78; refine (NN.out _).mono ?_; rintro e w1 ⟨rfl, hz⟩; rw [hz]; clear hz w1)
    go_ret
    exact ⟨rfl, rfl⟩
  · have i1 : ¬ (x : Int) < (y : Int) := by omega
    rw [if_neg h1]
    by_cases h2 : y < x
    · have i2 : (x : Int) > (y : Int) := by omega
      rw [if_pos h2]
      go_enter Tryd.func72, Tryd.ntmps72
      go_wp2_with (go_at_call 78; refine (NN.out _).mono ?_; rintro e w1 ⟨rfl, hz⟩; rw [hz]; clear hz w1)
      go_ret
      exact ⟨rfl, rfl⟩
    · have i2 : ¬ (x : Int) > (y : Int) := by omega
      rw [if_neg h2]
      go_enter Tryd.func72, Tryd.ntmps72
      go_wp2_with (go_at_call 78; refine (NN.out _).mono ?_; rintro e w1 ⟨rfl, hz⟩; rw [hz]; clear hz w1)
      go_ret
      exact ⟨rfl, rfl⟩
set_option maxHeartbeats 4000000 in
theorem first_B {xa ya : Option Addr} {xc yc : Nat} {S T : List Nat} {w : World} (hS : InRow w xa (nI S)) (hT : InRow w ya (nI T)) (hs : 0 < S.length) (ht : 0 < T.length) : Calls Tryd.prog 71 #[.slice xa S.length xc, .slice ya T.length yc] w fun e w' => e = .returned (.int .i64 (cmpB (S.getD 0 0) (T.getD 0 0))) ∧ ∃ q, w' = w.drewN q := by
  obtain ⟨b1, o1, rfl, _, c1⟩ := inrow_at hS (i := 0) (x := S.getD 0 0) (by rw [List.getD_eq_getElem?_getD, List.getElem?_eq_getElem hs]; rfl)
  obtain ⟨b2, o2, rfl, _, c2⟩ := inrow_at hT (i := 0) (x := T.getD 0 0) (by rw [List.getD_eq_getElem?_getD, List.getElem?_eq_getElem ht]; rfl)
  have CM : Hid (∀ w', Calls Tryd.prog 72 #[.int .i64 ((S.getD 0 0 : Nat) : Int), .int .i64 ((T.getD 0 0 : Nat) : Int)] w' fun e w'' => e = .returned (.int .i64 (cmpB (S.getD 0 0) (T.getD 0 0))) ∧ w'' = w') := fun w' => compare_B _ _ w'
  generalize cmpB (S.getD 0 0) (T.getD 0 0) = r at *
  generalize S.getD 0 0 = x at *
  generalize T.getD 0 0 = y at *
  rw [Nat.add_zero] at c1 c2
  have sl : (0 : Int) < (S.length : Int) := by omega
  have tl : (0 : Int) < (T.length : Int) := by omega
  generalize S.length = sn at *
  generalize T.length = tn at *
  clear hS hT
  go_enter Tryd.func71, Tryd.ntmps71
  go_wp2
  go_quiet ((go_at_call 72; exact Calls.quiet_of_same (CM.out _)))
  go_wp2
  go_ret
  exact ⟨rfl, _, rfl⟩
/-- The classes laid by their first numbers. -/
theorem sortf_B {w : World} {z : Nat} {v : Value} {V : List SlV} {C : List (List Nat)} (hL : LsB z v V C w) (hne : ∀ T ∈ C, 0 < T.length) (hl : C.length ≤ 1048576) :
    Calls Tryd.prog 70 #[v, .func (.func 71) #[] #[]] w fun e w' => e = .returned (.tuple #[]) ∧ (∃ V' C', C'.Perm C ∧ C'.Pairwise (fun T T' => T.getD 0 0 ≤ T'.getD 0 0) ∧ LsB z v V' C' w') ∧ FrB (fun j => v.ownBlock = some j) w w' := by
  by_cases h0 : V.length = 0
  · have hV : V = [] := List.eq_nil_of_length_eq_zero h0
    have hC : C = [] := List.eq_nil_of_length_eq_zero (by rw [← hL.len]; exact h0)
    obtain ⟨a, c, rfl, _⟩ := hL.row.len
    rw [h0]
    have hc := AnyF.slices_SortFunc_none { sf_laysB with } a c (.func (.func 71) #[] #[]) w
    change Calls Tryd.prog 70 _ _ _ at hc
    refine hc.mono ?_
    rintro e w' ⟨rfl, rfl⟩
    refine ⟨rfl, ⟨V, C, List.Perm.refl _, by rw [hC]; exact List.Pairwise.nil, ?_⟩, Below.frB (Below.refl _ _)⟩
    rw [h0] at hL
    exact hL
  · have hpos : 0 < V.length := by omega
    obtain ⟨b, c, rfl, hcl, _⟩ := hL.row.cell rkSl.len hpos
    have hlen := hL.len
    obtain ⟨f, hf⟩ : ∃ f : Fin V.length → Nat, ∀ i, f i = (C.getD i.val []).getD 0 0 := ⟨_, fun _ => rfl⟩
    letI : Inhabited (Fin V.length) := ⟨⟨0, hpos⟩⟩
    obtain ⟨d, hd⟩ : ∃ d : Array (Fin V.length), d = (List.ofFn (n := V.length) id).toArray := ⟨_, rfl⟩
    have hds : d.size = V.length := by rw [hd]; simp
    have hdg : ∀ j, (hj : j < V.length) → d[j]! = ⟨j, hj⟩ := fun j hj => by rw [hd]; simp [hj]
    have hpm : ∀ l : List (Fin V.length), l.map (fun i => V[i]) |>.flatMap slCB |> (· = l.map fun i => slV V[i]) := fun l => by
      induction l with
      | nil => rfl
      | cons x l ih => simp only [List.map_cons, List.flatMap_cons, ih]; rfl
    have hdl : d.toList = List.ofFn (n := V.length) id := by rw [hd]
    have hV0 : d.toList.map (fun i => V[i]) = V := by
      apply List.ext_getElem
      · simp [hds]
      · intro i h1 h2
        simp [hdl]
    have hC0 : d.toList.map (fun i => C.getD i.val []) = C := by
      apply List.ext_getElem
      · simp [hds, hlen]
      · intro i h1 h2
        simp [hdl, h2]
    have hcell : ∀ l : List (Fin V.length), (l.map fun i => slV V[i]).length = l.length := fun l => by simp
    obtain ⟨enc, henc⟩ : ∃ enc : Fin V.length → Value, enc = fun i => slV V[i] := ⟨_, rfl⟩
    have h' : w.ownsRow 0 42 1 (.slice (some ⟨b, 0, none⟩) (d.toList.map enc).length c) (d.toList.map enc).length (d.toList.map enc) := by
      have q := hL.row
      unfold SLo RO at q
      have e1 : V.flatMap slCB = d.toList.map enc := by
        have := hpm d.toList
        rw [hV0] at this
        rw [henc]
        exact this
      rw [e1] at q
      have e2 : (d.toList.map enc).length = V.length := by simp [hds]
      rw [e2]
      exact q
    obtain ⟨hb, hc⟩ := own_holds h'
    have hH : Holds enc w b 0 d := fun j hj => by
      rw [Nat.zero_add]
      have := hc j (enc d[j]!) (by simp [hj])
      exact this
    have h1 : OneCell enc := fun x => by rw [henc]; rfl
    have hO : SWO (ltOf fun i j => cmpB (f i) (f j)) := by
      have hlt : ∀ i j, ltOf (fun i j => cmpB (f i) (f j)) i j = decide (f i < f j) := fun i j => by
        show decide (cmpB (f i) (f j) < 0) = _
        unfold cmpB
        by_cases q : f i < f j
        · rw [if_pos q]; simp [q]
        · rw [if_neg q]
          by_cases q2 : f j < f i
          · rw [if_pos q2]; simp [q]
          · rw [if_neg q2]; simp [q]
      refine ⟨fun x => ?_, fun x y z => ?_, fun x y z => ?_⟩
      · rw [hlt]; simp
      · rw [hlt, hlt, hlt]; simp; omega
      · rw [hlt, hlt, hlt]; simp; omega
    have ilk : ∀ (W : World), FrB (· = b) w W → ∀ i : Fin V.length, IL W (slV V[i]) (nI (C.getD i.val [])) := fun W hW i => by
      have hx : V[i.val]? = some V[i] := List.getElem?_eq_getElem i.isLt
      have hi := hL.il i.val V[i] _ hx (getD_someL (by rw [← hlen]; exact i.isLt))
      refine hi.kept (fun j hj => hW.block j (World.ownsRow.lt hi j hj).2 (fun q => ?_))
      have q2 : j = b := q
      exact hL.ne V[i] (List.mem_of_getElem? hx) j hj (by rw [q2]; rfl)
    have hcmp : CmpLays1 Tryd.prog 71 #[] enc (fun i j => cmpB (f i) (f j)) b 0 d.size w := CmpReads.lays fun m os dk hs x y => by
      have hW := put_fr enc dk w b m os
      obtain ⟨a1, c1, e1, r1⟩ := (ilk _ hW x).rowB
      obtain ⟨a2, c2, e2, r2⟩ := (ilk _ hW y).rowB
      have hn1 := hne _ (getD_memL (show x.val < C.length by rw [← hlen]; exact x.isLt))
      have hn2 := hne _ (getD_memL (show y.val < C.length by rw [← hlen]; exact y.isLt))
      have := first_B (xc := c1) (yc := c2) r1 r2 hn1 hn2
      rw [← e1, ← e2, ← hf x, ← hf y] at this
      rw [henc]
      rw [henc] at this
      exact this
    have hcall := Any.slices_SortFunc sf_laysB enc h1 (fun i j => cmpB (f i) (f j)) hO 71 #[] b 0 c d w (enters_of Tryd.func71 (by kernel_rfl) rfl) hcmp hH hb (by omega)
    change Calls Tryd.prog 70 _ _ _ at hcall
    rw [hds] at hcall
    refine hcall.mono ?_
    rintro e w' ⟨rfl, d', n, os, hp, hs, rfl⟩
    have hds' : d'.size = V.length := by rw [hp.1, hds]
    have hperm : d'.toList.Perm d.toList := by
      have := hp.2.2
      have e1 : d'.extract 0 V.length = d' := by simp [hds']
      have e2 : d.extract 0 V.length = d := by simp [hds]
      rw [e1, e2] at this
      exact this
    have hnd : d'.toList.Nodup := by
      rw [hperm.nodup_iff, hdl]
      simp only [List.nodup_iff_pairwise_ne, List.pairwise_iff_getElem]
      intro i j hi hj hij q
      simp at q
      omega
    have hfr : FrB (· = b) w (sortWorld enc w b 0 n d' os) := put_fr enc d' w b n os
    refine ⟨rfl, ⟨d'.toList.map (fun i => V[i]), d'.toList.map (fun i => C.getD i.val []), ?_, ?_, ?_⟩, hfr.mono (fun j _ q => by have q2 : j = b := q; rw [q2]; rfl)⟩
    · have := hperm.map (fun i => C.getD i.val [])
      rwa [hC0] at this
    · rw [List.pairwise_map, List.pairwise_iff_getElem]
      intro i j hi hj hij
      have hi' : i < d'.size := by simpa using hi
      have hj' : j < d'.size := by simpa using hj
      have := hs i j (Nat.zero_le _) hij (by rw [← hds']; exact hj')
      have e0 : ∀ i j, ltOf (fun i j => cmpB (f i) (f j)) i j = decide (cmpB (f i) (f j) < 0) := fun _ _ => rfl
      rw [e0] at this
      unfold cmpB at this
      have e1 : d'[i]! = d'.toList[i] := by simp [hi']
      have e2 : d'[j]! = d'.toList[j] := by simp [hj']
      rw [e1, e2] at this
      rw [← hf, ← hf]
      by_cases q : f d'.toList[j] < f d'.toList[i]
      · rw [if_pos q] at this
        simp at this
      · omega
    · have getV : ∀ (i : Nat) (x : SlV), (d'.toList.map (fun i => V[i]))[i]? = some x → ∃ k : Fin V.length, d'.toList[i]? = some k ∧ x = V[k] := fun i x hx => by
        rw [List.getElem?_map] at hx
        cases e : d'.toList[i]? with
        | none => rw [e] at hx; cases hx
        | some k => rw [e] at hx; simp at hx; exact ⟨k, rfl, hx.symm⟩
      have memV : ∀ x ∈ d'.toList.map (fun i => V[i]), x ∈ V := fun x hx => by
        obtain ⟨k, _, rfl⟩ := List.mem_map.1 hx
        exact List.getElem_mem k.isLt
      refine ⟨?_, hL.own, by simp, fun i x l hx hl => ?_, fun x hx => hL.lo x (memV x hx), fun x hx => hL.ne x (memV x hx), fun i i' x x' hx hx' hii => ?_⟩
      · have q := own_put enc d' h' (by simp [hds, hds']) n os
        unfold SLo RO
        rw [hpm]
        have e1 : (d.toList.map enc).length = V.length := by simp [hds]
        rw [e1] at q
        have e2 : (d'.toList.map fun i => V[i]).length = V.length := by simp [hds']
        rw [e2]
        rw [henc] at q
        rw [henc]
        exact q
      · obtain ⟨k, hk, rfl⟩ := getV i x hx
        rw [List.getElem?_map, hk] at hl
        simp at hl
        subst hl
        have := ilk _ hfr k
        simpa using this
      · obtain ⟨k, hk, rfl⟩ := getV i x hx
        obtain ⟨k', hk', rfl⟩ := getV i' x' hx'
        refine hL.nd k.val k'.val V[k] V[k'] (List.getElem?_eq_getElem k.isLt) (List.getElem?_eq_getElem k'.isLt) (fun q => hii ?_)
        have hkk : k = k' := Fin.ext q
        subst hkk
        obtain ⟨h3, h4⟩ := List.getElem?_eq_some_iff.1 hk
        obtain ⟨h5, h6⟩ := List.getElem?_eq_some_iff.1 hk'
        exact (List.getElem_inj hnd).1 (h4.trans h6.symm)
end Go.Proofs.YtcjejnenklppiaaDoor
