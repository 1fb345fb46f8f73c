import Derived.Test.YtcgghlaifmlpiaaGreatDoorBT18
namespace Go.Proofs.YtcgghlaifmlpiaaGreatDoor
set_option linter.unusedVariables false
open Go.RowKit Go.Shelf

/-- Pairs of numbers in memory. -/
def PrsB (w : World) (ao : Option Addr) (l : List (Int × Int)) : Prop := l ≠ [] → ∃ b off, ao = some ⟨b, off, none⟩ ∧ b < w.heap.size ∧ ∀ i, i < l.length → w.cell? ⟨b, off + i * 2, none⟩ = some (.int .i64 (l.getD i (0, 0)).1) ∧ w.cell? ⟨b, off + i * 2 + 1, none⟩ = some (.int .i64 (l.getD i (0, 0)).2)
theorem PrsB.later {w w' : World} {ao : Option Addr} {l : List (Int × Int)} (h : PrsB w ao l) (hb : Below w.heap.size w w') : PrsB w' ao l := by
  intro hne
  obtain ⟨b, off, e, hl, hc⟩ := h hne
  refine ⟨b, off, e, Nat.lt_of_lt_of_le hl hb.size, fun i hi => ?_⟩
  exact ⟨(hb.cell (p := ⟨b, off + i * 2, none⟩) hl).trans (hc i hi).1, (hb.cell (p := ⟨b, off + i * 2 + 1, none⟩) hl).trans (hc i hi).2⟩
def okE (n : Nat) (p : Int × Int) : Bool := (decide (0 ≤ p.1) && decide (p.1 < (n : Int))) && (decide (0 ≤ p.2) && decide (p.2 < (n : Int)))
def hasE (E : List (Int × Int)) (x y : Nat) : Bool := E.any fun p => decide (p.1 = (x : Int)) && decide (p.2 = (y : Int))
theorem hasE_snoc (E : List (Int × Int)) (p : Int × Int) (x y : Nat) : hasE (E ++ [p]) x y = (hasE E x y || (decide (p.1 = (x : Int)) && decide (p.2 = (y : Int)))) := by
  unfold hasE
  rw [List.any_append]
  simp
/-- What rowsOf answers. -/
def RoA (w : World) (n : Nat) (E : List (Int × Int)) (e : Ending) (w' : World) : Prop := (E.all (okE n) = false ∧ e = .returned (.tuple #[.slice none 0 0, .int .i64 51]) ∧ Below w.heap.size w w') ∨ (E.all (okE n) = true ∧ ∃ Ms, e = .returned (.tuple #[.slice (some ⟨w.heap.size, 0, none⟩) n n, .int .i64 0]) ∧ TuB w n Ms w' ∧ ∀ x y, x < n → y < n → (Ms.getD x 0).testBit y = hasE E x y)
set_option maxRecDepth 100000 in
set_option maxHeartbeats 8000000 in
theorem rows_far (n : Int) (hn : (decide (0 ≤ n) && decide (n ≤ 4096)) = false) (ea : Option Addr) (el ec : Nat) (w : World) : Calls Tryz.prog 31 #[.int .i64 n, .slice ea el ec] w fun e w' => e = .returned (.tuple #[.slice none 0 0, .int .i64 4]) ∧ w' = w := by
  have AL : Hid (Calls Tryz.prog 81 #[.int .i64 n] w fun e w' => e = .returned (.bool false) ∧ w' = w) := by
    have := allowed_SB n w
    rwa [hn] at this
  clear hn
  go_enter Tryz.func31, Tryz.ntmps31
  go_wp2_with (go_at_call 81; refine AL.out.mono ?_; rintro e w1 ⟨rfl, hz⟩; rw [hz]; clear hz w1)
  refine bodyPost_ret (v := .tuple #[.slice none 0 0, .int .i64 4]) (by simp [results, Tryz.results31, go_sem]) rfl ?_
  exact ⟨rfl, rfl⟩
set_option maxRecDepth 100000 in
set_option maxHeartbeats 8000000 in
theorem rows_SB {w : World} {n : Nat} (hm : n ≤ 4096) (ea : Option Addr) (ec : Nat) (E : List (Int × Int)) (hE : PrsB w ea E) (hEl : E.length ≤ 140737488355328) :
    Calls Tryz.prog 31 #[.int .i64 (n : Int), .slice ea E.length ec] w (RoA w n E) := by
  have HE : Hid (PrsB w ea E) := hE
  have AL : Hid (Calls Tryz.prog 81 #[.int .i64 (n : Int)] w fun e w' => e = .returned (.bool true) ∧ w' = w) := by
    have := allowed_SB (n : Int) w
    rwa [decide_eq_true (show (0 : Int) ≤ (n : Int) by omega), decide_eq_true (show (n : Int) ≤ 4096 by omega)] at this
  have HEM : Hid (Calls Tryz.prog 82 #[.int .i64 (n : Int), .int .i64 (n : Int)] w fun e w' => e = .returned (.slice (some ⟨w.heap.size, 0, none⟩) n n) ∧ RwB w' w.heap.size n (ksE w.heap.size n) (List.replicate n 0) ∧ Below w.heap.size w w') := empties_SB n n hm hm w
  clear hE
  go_enter Tryz.func31, Tryz.ntmps31
  go_wp2_with (first
    | (go_at_call 81; refine AL.out.mono ?_; rintro e w1 ⟨rfl, hz⟩; rw [hz]; clear hz w1)
    | (go_at_call 82; refine HEM.out.mono ?_; rintro e w1 ⟨rfl, s1, b1⟩; have S1 : Hid (TuB w n (List.replicate n 0) w1) := ⟨s1, by simp, b1⟩; clear s1 b1))
  clear HEM AL
  go_loopw [17] (fun z wr => ∃ (i : Nat) (Ms : List Nat), i ≤ E.length ∧ z = .int .i64 (i : Int) ∧ TuB w n Ms wr ∧ (E.take i).all (okE n) = true ∧ ∀ x y, x < n → y < n → (Ms.getD x 0).testBit y = hasE (E.take i) x y) (fun z _ => E.length - (intOf z).toNat)
  case atStart => exact ⟨0, _, Nat.zero_le _, rfl, S1.out, rfl, fun x y hx _ => by simp [List.getD_eq_getElem?_getD, hx, hasE]⟩
  case round =>
    clear S1
    obtain ⟨i, Ms, hi, rfl, hU, hok, hbit⟩ := hrel
    by_cases hlt : i < E.length
    · have ilt : (i : Int) < (E.length : Int) := by omega
      obtain ⟨b, off, hea, hbl, hc⟩ := (HE.out.later hU.bel) (by intro q; rw [q] at hlt; simp at hlt)
      obtain ⟨pa, pb, hpe⟩ : ∃ pa pb, E.getD i (0, 0) = (pa, pb) := ⟨_, _, rfl⟩
      obtain ⟨c0, c1⟩ := hc i hlt
      rw [hpe] at c0 c1
      have hEi : E[i]? = some (pa, pb) := by
        rw [List.getElem?_eq_getElem hlt]
        rw [List.getD_eq_getElem?_getD, List.getElem?_eq_getElem hlt] at hpe
        exact congrArg some hpe
      have htk : E.take (i + 1) = E.take i ++ [(pa, pb)] := by rw [List.take_add_one, hEi]; rfl
      have HIN : Hid ((pa, pb) ∈ E) := List.mem_of_getElem? hEi
      have HU : Hid (TuB w n Ms wr) := hU
      have HBE : Hid (Below w.heap.size w wr) := hU.bel
      have BA : Hid (Calls Tryz.prog 83 #[.int .i64 pa, .int .i64 (n : Int)] (wr.alloc (.cells #[.int .i64 pa, .int .i64 pb] 82)) fun e w' => e = .returned (.bool (decide (0 ≤ pa) && decide (pa < (n : Int)))) ∧ w' = (wr.alloc (.cells #[.int .i64 pa, .int .i64 pb] 82))) := below_SB pa (n : Int) _
      have BB2 : Hid (Calls Tryz.prog 83 #[.int .i64 pb, .int .i64 (n : Int)] (wr.alloc (.cells #[.int .i64 pa, .int .i64 pb] 82)) fun e w' => e = .returned (.bool (decide (0 ≤ pb) && decide (pb < (n : Int)))) ∧ w' = (wr.alloc (.cells #[.int .i64 pa, .int .i64 pb] 82))) := below_SB pb (n : Int) _
      subst hea
      clear hc hEi hpe
      by_cases ha : (decide (0 ≤ pa) && decide (pa < (n : Int))) = true
      · rw [ha] at BA
        by_cases hb : (decide (0 ≤ pb) && decide (pb < (n : Int))) = true
        · rw [hb] at BB2
          obtain ⟨x, rfl⟩ : ∃ x : Nat, pa = (x : Int) := ⟨pa.toNat, by simp at ha; omega⟩
          obtain ⟨y, rfl⟩ : ∃ y : Nat, pb = (y : Int) := ⟨pb.toNat, by simp at hb; omega⟩
          have hxn : x < n := by simp at ha; omega
          have hyn : y < n := by simp at hb; omega
          have xlt : (x : Int) < (n : Int) := by omega
          have HB2 : Hid (∀ x' y', x' < n → y' < n → ((Ms.set x (addN (Ms.getD x 0) y)).getD x' 0).testBit y' = hasE (E.take (i + 1)) x' y') := fun x' y' hx' hy' => by
            rw [htk, hasE_snoc, getD_setV]
            by_cases e : x = x'
            · subst e
              rw [if_pos ⟨rfl, by rw [hU.len]; exact hxn⟩, addN_bit, hbit x y' hxn hy']
              congr 1
              rw [decide_eq_true (show ((x : Nat) : Int) = (x : Int) from rfl), Bool.true_and]
              exact decide_eq_decide.2 (by omega)
            · rw [if_neg (fun z => e z.1), hbit x' y' hx' hy', decide_eq_false (fun z : ((x : Nat) : Int) = (x' : Int) => e (Int.ofNat_inj.1 z))]
              simp
          have HOK : Hid ((E.take (i + 1)).all (okE n) = true) := by
            show _ = _
            rw [htk, List.all_append, hok]
            simp only [List.all_cons, List.all_nil, Bool.and_true, Bool.true_and]
            unfold okE
            rw [ha, hb]
            rfl
          clear ha hb hok hbit htk hU
          have BAB : Hid (∀ (z : Int), z = (x : Int) ∨ z = (y : Int) → Calls Tryz.prog 83 #[.int .i64 z, .int .i64 (n : Int)] (wr.alloc (.cells #[.int .i64 (x : Int), .int .i64 (y : Int)] 82)) fun e w' => e = .returned (.bool true) ∧ w' = (wr.alloc (.cells #[.int .i64 (x : Int), .int .i64 (y : Int)] 82))) := fun z q => by
            rcases q with rfl | rfl
            · exact BA.out
            · exact BB2.out
          clear BA BB2
          go_wp2_with (go_at_call 83; refine (BAB.out _ (by first | (with_reducible exact Or.inl rfl) | (with_reducible exact Or.inr rfl))).mono ?_; rintro e w3 ⟨rfl, hz⟩; rw [hz]; clear hz w3)
          obtain ⟨wd, hwd⟩ : ∃ wd : World, wd = (wr.alloc (.cells #[.int .i64 (x : Int), .int .i64 (y : Int)] 82)).drew := ⟨_, rfl⟩
          have UD : Hid (TuB w n Ms wd) := by rw [hwd]; exact (HU.out.any (below_alloc _ _)).any (Below.refl _ _).drew
          have X5 : wd.heap[wr.heap.size]? = some (.cells #[.int .i64 (x : Int), .int .i64 (y : Int)] 82) := by rw [hwd]; exact heap_alloc_new wr _
          have d0 : wd.cell? ⟨wr.heap.size, 0, none⟩ = some (.int .i64 (x : Int)) := (cellq_any X5).trans rfl
          have d1 : wd.cell? ⟨wr.heap.size, 1, none⟩ = some (.int .i64 (y : Int)) := (cellq_any X5).trans rfl
          obtain ⟨k2, hk2, hs2⟩ := UD.out.rw.at (show x < Ms.length by rw [UD.out.len]; exact hxn)
          have ck2 := UD.out.rw.cell hk2
          have AD : Hid (Calls Tryz.prog 50 #[.pointer (some ⟨k2 + 1, 0, none⟩), .int .i64 (y : Int)] wd fun e w'' => ∃ bv, e = .returned (.bool bv) ∧ TuB w n (Ms.set x (addN (Ms.getD x 0) y)) w'') := (add_SB hs2 (y : Int)).mono fun e w'' ⟨q1, q2, q3⟩ => by
            have e2 : addX (Ms.getD x 0) n (y : Int) = addN (Ms.getD x 0) y := by unfold addX; rw [if_pos ⟨by omega, by omega⟩]; rfl
            rw [e2] at q2
            exact ⟨_, q1, UD.out.turn hk2 q2 q3⟩
          refine wp_region_tail_s 7 (by kernel_rfl) (by kernel_rfl) wd hwd ?_
          clear hwd X5 hk2 hs2 c0 c1 BAB
          simp only [List.take_succ_cons, List.take_zero, List.drop_succ_cons, List.drop_zero]
          refine st_yes (v := ?_) (by rfl) ?_ ?_
          rotate_left
          · (go_simp; with_reducible rfl)
          (try simp only [Act.put, List.setIfInBounds_toArray, List.set_cons_zero, List.set_cons_succ])
          refine st_yes (v := ?_) (by rfl) ?_ ?_
          rotate_left
          · (go_simp; with_reducible rfl)
          (try simp only [Act.put, List.setIfInBounds_toArray, List.set_cons_zero, List.set_cons_succ])
          refine st_yes (v := ?_) (by rfl) ?_ ?_
          rotate_left
          · (go_simp; with_reducible rfl)
          (try simp only [Act.put, List.setIfInBounds_toArray, List.set_cons_zero, List.set_cons_succ])
          refine st_yes (v := ?_) (by rfl) ?_ ?_
          rotate_left
          · (go_simp; with_reducible rfl)
          (try simp only [Act.put, List.setIfInBounds_toArray, List.set_cons_zero, List.set_cons_succ])
          refine st_yes (v := ?_) (by rfl) ?_ ?_
          rotate_left
          · (go_simp; with_reducible rfl)
          (try simp only [Act.put, List.setIfInBounds_toArray, List.set_cons_zero, List.set_cons_succ])
          refine st_yes (v := ?_) (by rfl) ?_ ?_
          rotate_left
          · (go_simp; with_reducible rfl)
          (try simp only [Act.put, List.setIfInBounds_toArray, List.set_cons_zero, List.set_cons_succ])
          refine st_yes (v := ?_) (by rfl) ?_ ?_
          rotate_left
          · (go_simp; with_reducible rfl)
          (try simp only [Act.put, List.setIfInBounds_toArray, List.set_cons_zero, List.set_cons_succ])
          refine st_nil ?_
          go_wp2_with (go_at_call 50; refine AD.out.mono ?_; rintro e w4 ⟨bv, rfl, t4⟩; have T4 : Hid (TuB w n (Ms.set x (addN (Ms.getD x 0) y)) w4) := t4; clear t4 ck2 d0 d1)
          go_roundw
          case rel => exact ⟨i + 1, _, by omega, by go_num, T4.out, HOK.out, HB2.out⟩
          case measure => simp [intOf]; omega
        · have hbf : (decide (0 ≤ pb) && decide (pb < (n : Int))) = false := Bool.eq_false_iff.2 hb
          rw [hbf] at BB2
          have HNO : Hid (E.all (okE n) = false) := by
            show _ = _
            rw [List.all_eq_false]
            exact ⟨(pa, pb), HIN.out, by unfold okE; rw [hbf]; simp⟩
          have BAB : Hid (∀ (z : Int) (bv : Bool), (z = pa ∧ bv = true) ∨ (z = pb ∧ bv = false) → Calls Tryz.prog 83 #[.int .i64 z, .int .i64 (n : Int)] (wr.alloc (.cells #[.int .i64 pa, .int .i64 pb] 82)) fun e w' => e = .returned (.bool bv) ∧ w' = (wr.alloc (.cells #[.int .i64 pa, .int .i64 pb] 82))) := fun z bv q => by
            rcases q with ⟨rfl, rfl⟩ | ⟨rfl, rfl⟩
            · exact BA.out
            · exact BB2.out
          clear BA BB2 ha hb hbf hok hbit htk hU
          go_wp2_with (go_at_call 83; refine (BAB.out _ _ (by first | (with_reducible exact Or.inl ⟨rfl, rfl⟩) | (with_reducible exact Or.inr ⟨rfl, rfl⟩))).mono ?_; rintro e w3 ⟨rfl, hz⟩; rw [hz]; clear hz w3)
          refine bodyPost_ret (v := .tuple #[.slice none 0 0, .int .i64 51]) (by simp [results, Tryz.results31, go_sem]) rfl ?_
          exact Or.inl ⟨HNO.out, rfl, HBE.out.trans ((below_alloc _ _).mono HBE.out.size)⟩
      · have haf : (decide (0 ≤ pa) && decide (pa < (n : Int))) = false := Bool.eq_false_iff.2 ha
        rw [haf] at BA
        have HNO : Hid (E.all (okE n) = false) := by
          show _ = _
          rw [List.all_eq_false]
          exact ⟨(pa, pb), HIN.out, by unfold okE; rw [haf]; simp⟩
        clear BB2 ha haf hok hbit htk hU
        go_wp2_with (go_at_call 83; refine BA.out.mono ?_; rintro e w3 ⟨rfl, hz⟩; rw [hz]; clear hz w3)
        refine bodyPost_ret (v := .tuple #[.slice none 0 0, .int .i64 51]) (by simp [results, Tryz.results31, go_sem]) rfl ?_
        exact Or.inl ⟨HNO.out, rfl, HBE.out.trans ((below_alloc _ _).mono HBE.out.size)⟩
    · obtain rfl : i = E.length := by omega
      have ilt : ¬ (E.length : Int) < (E.length : Int) := by omega
      rw [List.take_length] at hok hbit
      have HU : Hid (TuB w n Ms wr ∧ E.all (okE n) = true ∧ ∀ x y, x < n → y < n → (Ms.getD x 0).testBit y = hasE E x y) := ⟨hU, hok, hbit⟩
      clear hU hok hbit
      go_wp2
      refine bodyPost_ret (v := .tuple #[.slice (some ⟨w.heap.size, 0, none⟩) n n, .int .i64 0]) (by simp [results, Tryz.results31, go_sem]) rfl ?_
      exact Or.inr ⟨HU.out.2.1, Ms, rfl, HU.out.1, HU.out.2.2⟩
end Go.Proofs.YtcgghlaifmlpiaaGreatDoor
